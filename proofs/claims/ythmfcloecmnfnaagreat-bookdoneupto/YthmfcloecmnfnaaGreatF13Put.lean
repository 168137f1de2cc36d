/-
  Package fold's put: an element takes the place of the one of its key, or stands where the keys rise.
-/
import Derived.Test.YthmfcloecmnfnaaGreatF13Ins
import Derived.Test.YthmfcloecmnfnaaGreatF13Ix
import Derived.Test.YthmfcloecmnfnaaGreatGClo
namespace Go.Proofs.YthmfcloecmnfnaaGreat.f13
open Go.RowKit Go.Shelf Go.Sort
open Go.Lib hiding intOf

/-- what putting comes to -/
def putL {α κ : Type} [BEq κ] (key : α → κ) (lt : κ → κ → Bool) (l : List α) (x : α) : List α := match l.findIdx? (fun y => key y == key x) with
  | some i => l.set i x
  | none => match l.findIdx? (fun y => lt (key x) (key y)) with
    | some i => l.take i ++ x :: l.drop i
    | none => l ++ [x]
theorem putL_len {α κ : Type} [BEq κ] (key : α → κ) (lt : κ → κ → Bool) (l : List α) (x : α) : (putL key lt l x).length ≤ l.length + 1 := by
  unfold putL
  split
  · simp
  · split
    · rename_i i hi
      have := (List.findIdx?_eq_some_iff_getElem.1 hi).1
      simp; omega
    · simp
def ltU (a b : Nat) : Bool := decide (a < b)
set_option maxHeartbeats 1000000 in
theorem lessU_any (a b : Nat) (w : World) : Calls Tryz.prog 86 #[.int .u64 (a : Int), .int .u64 (b : Int)] w fun e w' => e = .returned (.bool (ltU a b)) ∧ w' = w := by
  go_enter Tryz.func86, Tryz.ntmps86
  go_wp2
  go_ret
  refine ⟨?_, rfl⟩
  simp [ltU]
theorem row_base {w : World} {B n : Nat} {t : TypeId} {k : Nat} {v : Value} {cs : List Value} (h : w.ownsRow 0 t k v n cs) (hg : ∀ g, v.ownBlock = some g → B ≤ g) : w.ownsRow B t k v n cs := by
  refine ⟨h.1, h.2.imp id ?_⟩
  rintro ⟨g, cap, cur, e, -, rest⟩
  exact ⟨g, cap, cur, e, hg g (by rw [e]; rfl), rest⟩
theorem row_zero {w : World} {B n : Nat} {t : TypeId} {k : Nat} {v : Value} {cs : List Value} (h : w.ownsRow B t k v n cs) : w.ownsRow 0 t k v n cs := by
  refine ⟨h.1, h.2.imp id ?_⟩
  rintro ⟨g, cap, cur, e, -, rest⟩
  exact ⟨g, cap, cur, e, Nat.zero_le _, rest⟩
theorem fm_ins {α : Type} {k : Nat} {c : α → List Value} (hk : ∀ x, (c x).length = k) (l : List α) (i : Nat) (x : α) : (l.flatMap c).take (i * k) ++ c x ++ (l.flatMap c).drop (i * k) = (l.take i ++ x :: l.drop i).flatMap c := by
  rw [fm_take hk, fm_drop hk, List.flatMap_append, List.flatMap_cons, List.append_assoc]

set_option maxHeartbeats 2000000 in
set_option maxRecDepth 100000 in
theorem putIn1_any (x : In) (m : Nat) {w : World} {lb mb kb : Nat} (hl : w.cell? ⟨lb, 0, none⟩ = some (.func (.func 86) #[] #[])) (hm : w.cell? ⟨mb, 0, none⟩ = some (kU m)) (hk : w.cell? ⟨kb, 0, none⟩ = some (.func (.func 85) #[] #[])) (h2 : x.vv.oneCell' = true) :
    Calls Tryz.prog 140 #[.agg (In.c x).toArray, .pointer (some ⟨lb, 0, none⟩), .pointer (some ⟨mb, 0, none⟩), .pointer (some ⟨kb, 0, none⟩)] w fun e w' => e = .returned (.bool (ltU m x.kk)) ∧ Below w.heap.size w w' := by
  have CK := fun W => keyIn_any x W h2
  have CL := fun W => lessU_any m x.kk W
  have hll := World.block_lt_of_cell? w _ hl
  have hml := World.block_lt_of_cell? w _ hm
  have hkl := World.block_lt_of_cell? w _ hk
  obtain ⟨x0, x1, x2, _⟩ := x
  simp only [In.c, In.kk, kU] at CK CL hm ⊢
  have hb0 : Below w.heap.size w (w.alloc (.cells #[.int .u64 (x0 : Int), .string (S x1), x2] 95)) := (Below.refl _ w).alloc (Nat.le_refl _) _
  have HS : Hid (∀ W, Below (w.alloc (.cells #[.int .u64 (x0 : Int), .string (S x1), x2] 95)).heap.size (w.alloc (.cells #[.int .u64 (x0 : Int), .string (S x1), x2] 95)) W → W.cell? ⟨lb, 0, none⟩ = some (.func (.func 86) #[] #[]) ∧ W.cell? ⟨mb, 0, none⟩ = some (.int .u64 (m : Int)) ∧ W.cell? ⟨kb, 0, none⟩ = some (.func (.func 85) #[] #[]) ∧ W.cell? ⟨w.heap.size, 0, none⟩ = some (.int .u64 (x0 : Int)) ∧ W.cell? ⟨w.heap.size, 1, none⟩ = some (.string (S x1)) ∧ W.cell? ⟨w.heap.size, 2, none⟩ = some (x2)) := by
    intro W hW
    have hsz : w.heap.size < (w.alloc (.cells #[.int .u64 (x0 : Int), .string (S x1), x2] 95)).heap.size := by simp
    exact ⟨(hW.cell (p := ⟨lb, 0, none⟩) (by simp at hll ⊢; omega)).trans ((hb0.cell (p := ⟨lb, 0, none⟩) hll).trans hl), (hW.cell (p := ⟨mb, 0, none⟩) (by simp at hml ⊢; omega)).trans ((hb0.cell (p := ⟨mb, 0, none⟩) hml).trans hm), (hW.cell (p := ⟨kb, 0, none⟩) (by simp at hkl ⊢; omega)).trans ((hb0.cell (p := ⟨kb, 0, none⟩) hkl).trans hk), (hW.cell (p := ⟨w.heap.size, 0, none⟩) hsz).trans (World.cell?_alloc_new _ _ _ _), (hW.cell (p := ⟨w.heap.size, 1, none⟩) hsz).trans (World.cell?_alloc_new _ _ _ _), (hW.cell (p := ⟨w.heap.size, 2, none⟩) hsz).trans (World.cell?_alloc_new _ _ _ _)⟩
  have B1 : Hid (Below w.heap.size w (w.alloc (.cells #[.int .u64 (x0 : Int), .string (S x1), x2] 95))) := hb0
  clear hb0 hk hm hl hkl hml hll
  go_enter Tryz.func140, Tryz.ntmps140
  go_wp2
  generalize (w.alloc (.cells #[.int .u64 (x0 : Int), .string (S x1), x2] 95)) = W1 at *
  obtain ⟨c0, c1, c2, c3, c4, c5⟩ := HS.out _ (Below.refl _ _)
  go_region_held3 (fun W => W.cell? ⟨lb, 0, none⟩ = some (.func (.func 86) #[] #[]) ∧ W.cell? ⟨mb, 0, none⟩ = some (.int .u64 (m : Int)) ∧ W.cell? ⟨kb, 0, none⟩ = some (.func (.func 85) #[] #[]) ∧ W.cell? ⟨w.heap.size, 0, none⟩ = some (.int .u64 (x0 : Int)) ∧ W.cell? ⟨w.heap.size, 1, none⟩ = some (.string (S x1)) ∧ W.cell? ⟨w.heap.size, 2, none⟩ = some (x2))
    (first | go_keep | exact HS.out _ (Below.refl _ _) | exact HS.out _ (Below.refl _ _).drew | exact HS.out _ hX)
    (first
      | (go_at_call 85; refine (CK _).mono ?_; rintro e u1 ⟨rfl, hX0⟩; (have hX : Below W1.heap.size W1 u1 := (Below.refl _ W1).drew.trans (hX0.mono (Nat.le_refl _))); (have B2 : Hid (Below w.heap.size w u1) := bel_of B1.out hX (Nat.le_refl _)); clear hX0)
      | (go_at_call 86; refine (CL _).mono ?_; rintro e u2 ⟨rfl, hu2⟩; rw [hu2]; clear hu2))
  all_goals
    go_wp2
    go_ret
    exact ⟨by simp, B2.out⟩

/-- what put hands back -/
def PtIn (B : Nat) (w : World) (v : Value) (l : List In) (e : Ending) (w' : World) : Prop := ∃ v', e = .returned v' ∧ w'.ownsRow B 95 3 v' l.length (l.flatMap In.c) ∧ Ch (fun g => v.ownBlock = some g) w w' ∧ ∀ g, v'.ownBlock = some g → v.ownBlock = some g ∨ w.heap.size ≤ g
set_option maxHeartbeats 8000000 in
set_option maxRecDepth 100000 in
theorem putIn_any {B : Nat} {w : World} {v : Value} {l : List In} (x : In) (h : w.ownsRow B 95 3 v l.length (l.flatMap In.c)) (hB : B ≤ w.heap.size) (hbig : (l.length + 1) * 48 ≤ 211106232528000) (s2 : ∃ a n c, x.vv = .slice a n c) (o2 : ∀ y ∈ l, y.vv.oneCell' = true) :
    Calls Tryz.prog 84 #[v, .agg (In.c x).toArray, (.func (.func 85) #[] #[]), (.func (.func 86) #[] #[])] w (PtIn B w v (putL In.kk ltU l x)) := by
  have hn : l.length ≤ 4611686018427387904 := by omega
  obtain ⟨a0, c0, hs, -, hnc, hc63⟩ := row_slice h
  subst hs
  obtain ⟨sa2, sn2, sc2, s2⟩ := s2
  have CK := fun W => keyIn_any x W (by rw [s2]; rfl)
  have CO := fun W => ofIn_any x.kk W
  have HP1 := fun (y : In) (o2 : y.vv.oneCell' = true) (W : World) (lb mb kb : Nat) (a1 : W.cell? ⟨lb, 0, none⟩ = some (.func (.func 86) #[] #[])) (a2 : W.cell? ⟨mb, 0, none⟩ = some (kU x.kk)) (a3 : W.cell? ⟨kb, 0, none⟩ = some (.func (.func 85) #[] #[])) => putIn1_any y x.kk a1 a2 a3 o2
  have HR : Hid (w.ownsRow B 95 3 (.slice a0 l.length c0) l.length (l.flatMap In.c)) := h
  have HX : Hid (x = x) := rfl
  obtain ⟨x0, x1, x2, z0⟩ := x
  simp only at s2
  subst s2
  simp only [In.c, In.kk, kU] at CK CO HP1 ⊢
  have HS : Hid (∀ W, Below (((w.alloc (.cells #[.int .u64 (x0 : Int), .string (S x1), .slice sa2 sn2 sc2] 95)).alloc (.cells #[(.func (.func 85) #[] #[])] 140)).alloc (.cells #[(.func (.func 86) #[] #[])] 141)).heap.size (((w.alloc (.cells #[.int .u64 (x0 : Int), .string (S x1), .slice sa2 sn2 sc2] 95)).alloc (.cells #[(.func (.func 85) #[] #[])] 140)).alloc (.cells #[(.func (.func 86) #[] #[])] 141)) W → W.cell? ⟨w.heap.size, 0, none⟩ = some (.int .u64 (x0 : Int)) ∧ W.cell? ⟨w.heap.size, 1, none⟩ = some (.string (S x1)) ∧ W.cell? ⟨w.heap.size, 2, none⟩ = some (.slice sa2 sn2 sc2) ∧ W.cell? ⟨w.heap.size + 1, 0, none⟩ = some (.func (.func 85) #[] #[]) ∧ W.cell? ⟨w.heap.size + 1 + 1, 0, none⟩ = some (.func (.func 86) #[] #[])) := by
    intro W hW
    have e9 : (((w.alloc (.cells #[.int .u64 (x0 : Int), .string (S x1), .slice sa2 sn2 sc2] 95)).alloc (.cells #[(.func (.func 85) #[] #[])] 140)).alloc (.cells #[(.func (.func 86) #[] #[])] 141)).heap.size = w.heap.size + 3 := by simp
    rw [e9] at hW
    refine ⟨?_, ?_, ?_, ?_, ?_⟩
    · exact (hW.cell (p := ⟨w.heap.size, 0, none⟩) (by simp only; omega)).trans (by go_simp)
    · exact (hW.cell (p := ⟨w.heap.size, 1, none⟩) (by simp only; omega)).trans (by go_simp)
    · exact (hW.cell (p := ⟨w.heap.size, 2, none⟩) (by simp only; omega)).trans (by go_simp)
    · exact (hW.cell (p := ⟨w.heap.size + 1, 0, none⟩) (by simp only; omega)).trans (by go_simp)
    · exact (hW.cell (p := ⟨w.heap.size + 1 + 1, 0, none⟩) (by simp only; omega)).trans (by go_simp)
  have B0 : Hid (Below w.heap.size w (((w.alloc (.cells #[.int .u64 (x0 : Int), .string (S x1), .slice sa2 sn2 sc2] 95)).alloc (.cells #[(.func (.func 85) #[] #[])] 140)).alloc (.cells #[(.func (.func 86) #[] #[])] 141))) := (((Below.refl _ w).alloc (Nat.le_refl _) _).alloc (by simp) _).alloc (by simp; omega) _
  have putm : ∀ {w1 : World} (HS : ∀ W, Below (((w.alloc (.cells #[.int .u64 (x0 : Int), .string (S x1), .slice sa2 sn2 sc2] 95)).alloc (.cells #[(.func (.func 85) #[] #[])] 140)).alloc (.cells #[(.func (.func 86) #[] #[])] 141)).heap.size (((w.alloc (.cells #[.int .u64 (x0 : Int), .string (S x1), .slice sa2 sn2 sc2] 95)).alloc (.cells #[(.func (.func 85) #[] #[])] 140)).alloc (.cells #[(.func (.func 86) #[] #[])] 141)) W → W.cell? ⟨w.heap.size, 0, none⟩ = some (.int .u64 (x0 : Int)) ∧ W.cell? ⟨w.heap.size, 1, none⟩ = some (.string (S x1)) ∧ W.cell? ⟨w.heap.size, 2, none⟩ = some (.slice sa2 sn2 sc2) ∧ W.cell? ⟨w.heap.size + 1, 0, none⟩ = some (.func (.func 85) #[] #[]) ∧ W.cell? ⟨w.heap.size + 1 + 1, 0, none⟩ = some (.func (.func 86) #[] #[])), Below (((w.alloc (.cells #[.int .u64 (x0 : Int), .string (S x1), .slice sa2 sn2 sc2] 95)).alloc (.cells #[(.func (.func 85) #[] #[])] 140)).alloc (.cells #[(.func (.func 86) #[] #[])] 141)).heap.size (((w.alloc (.cells #[.int .u64 (x0 : Int), .string (S x1), .slice sa2 sn2 sc2] 95)).alloc (.cells #[(.func (.func 85) #[] #[])] 140)).alloc (.cells #[(.func (.func 86) #[] #[])] 141)) w1 → ∀ W, Below (w1.alloc (.cells #[.int .u64 (x0 : Int)] 22)).heap.size (w1.alloc (.cells #[.int .u64 (x0 : Int)] 22)) W → (W.cell? ⟨w.heap.size, 0, none⟩ = some (.int .u64 (x0 : Int)) ∧ W.cell? ⟨w.heap.size, 1, none⟩ = some (.string (S x1)) ∧ W.cell? ⟨w.heap.size, 2, none⟩ = some (.slice sa2 sn2 sc2) ∧ W.cell? ⟨w.heap.size + 1, 0, none⟩ = some (.func (.func 85) #[] #[]) ∧ W.cell? ⟨w.heap.size + 1 + 1, 0, none⟩ = some (.func (.func 86) #[] #[]) ∧ W.cell? ⟨w1.heap.size, 0, none⟩ = some (.int .u64 (x0 : Int))) ∧ Below w.heap.size w W := by
    intro w1 HS b1 W hW
    have b2 : Below w1.heap.size w1 (w1.alloc (.cells #[.int .u64 (x0 : Int)] 22)) := (Ch.below ((Ch.refl (fun b => b = w1.heap.size) w1).alloc _) (Nat.le_refl _) (fun b hb e => by omega))
    have b3 := bel_of b2 hW (Nat.le_refl _)
    have b4 := bel_of b1 b3 (Nat.le_refl _)
    have e1 : (w1.alloc (.cells #[.int .u64 (x0 : Int)] 22)).cell? ⟨w1.heap.size, 0, none⟩ = some (.int .u64 (x0 : Int)) := by go_simp
    obtain ⟨q0, q1, q2, q3, q4⟩ := HS W b4
    exact ⟨⟨q0, q1, q2, q3, q4, (hW.cell (p := ⟨w1.heap.size, 0, none⟩) (by simp)).trans e1⟩, bel_of B0.out b4 (Nat.le_refl _)⟩
  clear h HX
  cases hF : l.findIdx? (fun y => y.kk == x0) with
  | some i =>
    have e1 : fix (fun y => y.kk == x0) l = (i : Int) := by unfold fix; rw [hF]
    have hi := (List.findIdx?_eq_some_iff_getElem.1 hF).1
    have HE : Hid (putL In.kk ltU l ⟨x0, x1, .slice sa2 sn2 sc2, z0⟩ = l.set i ⟨x0, x1, .slice sa2 sn2 sc2, z0⟩) := by show _ = _; unfold putL; simp only [In.kk] at hF ⊢; rw [hF]
    obtain ⟨g, cap, hsl, hcap⟩ := row_any HR.out (by omega)
    obtain ⟨rfl, rfl⟩ : a0 = some ⟨g, 0, none⟩ ∧ c0 = cap := by injection hsl with e1 _ e2; exact ⟨e1, e2⟩
    have HN : Hid (∀ W, Below w.heap.size w W → PtIn B w (.slice (some ⟨g, 0, none⟩) l.length c0) (l.set i ⟨x0, x1, .slice sa2 sn2 sc2, z0⟩) (.returned (.slice (some ⟨g, 0, none⟩) l.length c0)) (W.setCells g (i * 3) (In.c ⟨x0, x1, .slice sa2 sn2 sc2, z0⟩)) ∧ (∃ u, W.cell? ⟨g, i * 3 + 0, none⟩ = some u) ∧ W.frozen? ⟨g, i * 3 + 0, none⟩ = false ∧ (∃ u, W.cell? ⟨g, i * 3 + 1, none⟩ = some u) ∧ W.frozen? ⟨g, i * 3 + 1, none⟩ = false ∧ (∃ u, W.cell? ⟨g, i * 3 + 2, none⟩ = some u) ∧ W.frozen? ⟨g, i * 3 + 2, none⟩ = false) := by
      intro W hW
      have r1 := (Ch.of_below (X := fun _ => False) hW).row HR.out (fun _ _ e => e)
      have cc : ∀ n, n < 3 → ∃ u, W.cell? ⟨g, i * 3 + n, none⟩ = some u := fun n hn => by
        refine ⟨(In.c l[i])[n]'(by rw [In.k]; exact hn), row_cell r1 ?_⟩
        rw [fm_get In.k _ i n hn, List.getElem?_eq_getElem hi]
        exact List.getElem?_eq_getElem _
      refine ⟨⟨_, rfl, ?_, ch_setCells (Ch.of_below hW) g _ _ (fun _ => rfl), fun b hb => .inl hb⟩, cc 0 (by omega), row_fro r1 _, cc 1 (by omega), row_fro r1 _, cc 2 (by omega), row_fro r1 _⟩
      rw [List.length_set]
      exact row_elem In.k r1 i hi _
    rw [HE.out]
    have hi0 : (0 : Int) ≤ (i : Int) := by omega
    have hil : (i : Int) < (l.length : Int) := by omega
    clear hF HP1
    go_enter Tryz.func84, Tryz.ntmps84
    go_wp2_with (first
      | (go_at_call 85; refine (CK _).mono ?_; rintro e w1 ⟨rfl, b1⟩; (have HM : Hid (∀ W, Below (w1.alloc (.cells #[.int .u64 (x0 : Int)] 22)).heap.size (w1.alloc (.cells #[.int .u64 (x0 : Int)] 22)) W → (W.cell? ⟨w.heap.size, 0, none⟩ = some (.int .u64 (x0 : Int)) ∧ W.cell? ⟨w.heap.size, 1, none⟩ = some (.string (S x1)) ∧ W.cell? ⟨w.heap.size, 2, none⟩ = some (.slice sa2 sn2 sc2) ∧ W.cell? ⟨w.heap.size + 1, 0, none⟩ = some (.func (.func 85) #[] #[]) ∧ W.cell? ⟨w.heap.size + 1 + 1, 0, none⟩ = some (.func (.func 86) #[] #[]) ∧ W.cell? ⟨w1.heap.size, 0, none⟩ = some (.int .u64 (x0 : Int))) ∧ Below w.heap.size w W) := putm (HS := HS.out) b1); obtain ⟨q0, q1, q2, q3, q4⟩ := HS.out w1 b1; (have hz1 : w.heap.size + 3 ≤ w1.heap.size := by (have := b1.size; simp at this; omega)); (have n0 : w.heap.size < w1.heap.size := by omega); (have n1 : w.heap.size + 1 < w1.heap.size := by omega); (have n2 : w.heap.size + 1 + 1 < w1.heap.size := by omega); clear b1 CK)
      | (go_at_call 98; refine (CO _).mono ?_; rintro e w2 ⟨caps, rfl, hsay, b2⟩; obtain ⟨⟨r0, r1, r2, r3, r4, r5⟩, hB2⟩ := HM.out w2 b2; (have CI := indexIn_any (X := fun _ => False) (fun y => y.kk == x0) ((Rr.row In.k HR.out).up hB2) hn (enters_of Tryz.func156 (by kernel_rfl) rfl) (fun y hy => hsay (fun _ => False) (fun _ e => e.elim) y (o2 y hy))); (have B2 : Hid (Below w.heap.size w w2) := hB2); (have BM : Hid (Below (w1.alloc (.cells #[.int .u64 (x0 : Int)] 22)).heap.size (w1.alloc (.cells #[.int .u64 (x0 : Int)] 22)) w2) := b2); rw [e1] at CI; clear hsay b2 CO hB2 q0 q1 q2 q3 q4)
      | (go_at_call 139; refine CI.mono ?_; rintro e w3 ⟨rfl, b3⟩; (have B3 : Hid (Below w.heap.size w w3) := bel_of B2.out b3 (Nat.le_refl _)); obtain ⟨⟨t0, t1, t2, t3, t4, t5⟩, -⟩ := HM.out w3 (bel_of BM.out b3 (Nat.le_refl _)); obtain ⟨hpt, ⟨u0, p0⟩, f0, ⟨u1, p1⟩, f1, ⟨u2, p2⟩, f2⟩ := HN.out w3 B3.out; (have HPt : Hid _ := hpt); clear hpt HN; simp only [Nat.add_zero] at p0 f0; clear b3 CI r0 r1 r2 r3 r4 r5))
    go_ret
    exact HPt.out
  | none =>
    have e1 : fix (fun y => y.kk == x0) l = -1 := by unfold fix; rw [hF]
    have hne : ¬ (0 : Int) ≤ -1 := by omega
    have CI2 : ∀ W, Below w.heap.size w W → ∀ lb mb kb, W.cell? ⟨lb, 0, none⟩ = some (.func (.func 86) #[] #[]) → W.cell? ⟨mb, 0, none⟩ = some (.int .u64 (x0 : Int)) → W.cell? ⟨kb, 0, none⟩ = some (.func (.func 85) #[] #[]) → Calls Tryz.prog 139 #[.slice a0 l.length c0, .func (.func 140) #[] #[.pointer (some ⟨lb, 0, none⟩), .pointer (some ⟨mb, 0, none⟩), .pointer (some ⟨kb, 0, none⟩)]] W fun e w' => e = .returned (.int .i64 (fix (fun y => ltU x0 y.kk) l)) ∧ Below W.heap.size W w' := fun W hW lb mb kb d1 d2 d3 =>
      indexIn_any (X := fun _ => False) (fun y => ltU x0 y.kk) ((Rr.row In.k HR.out).up hW) hn (enters_of Tryz.func140 (by kernel_rfl) rfl) (fun y hy W' hW' => HP1 y (o2 y hy) W' lb mb kb (hW'.cell d1 (fun e => e)) (hW'.cell d2 (fun e => e)) (hW'.cell d3 (fun e => e)))
    cases hG : l.findIdx? (fun y => ltU x0 y.kk) with
    | some i =>
      have e2 : fix (fun y => ltU x0 y.kk) l = (i : Int) := by unfold fix; rw [hG]
      rw [e2] at CI2
      have hi := (List.findIdx?_eq_some_iff_getElem.1 hG).1
      have HE : Hid (putL In.kk ltU l ⟨x0, x1, .slice sa2 sn2 sc2, z0⟩ = l.take i ++ ⟨x0, x1, .slice sa2 sn2 sc2, z0⟩ :: l.drop i) := by show _ = _; unfold putL; simp only [In.kk] at hF hG ⊢; rw [hF, hG]
      rw [HE.out]
      have HI : Hid (∀ W, Below w.heap.size w W → Calls Tryz.prog 141 #[.slice a0 l.length c0, .int .i64 (i : Int), .slice (some ⟨W.heap.size, 0, none⟩) 1 1] (W.alloc (.cells #[.int .u64 (x0 : Int), .string (S x1), .slice sa2 sn2 sc2] 95)) (PtIn B w (.slice a0 l.length c0) (l.take i ++ ⟨x0, x1, .slice sa2 sn2 sc2, z0⟩ :: l.drop i))) := by
        intro W hW
        have hW' : Below w.heap.size w (W.alloc (.cells #[.int .u64 (x0 : Int), .string (S x1), .slice sa2 sn2 sc2] 95)) := hW.trans ((Below.refl _ W).alloc hW.size _)
        have r1 := (Ch.of_below (X := fun _ => False) hW').row (row_zero HR.out) (fun _ _ e => e)
        refine (insert_anyIn (vb := W.heap.size) (i := i) r1 (heap_alloc_new W _) rfl rfl rfl (In.one o2) (fun e => by have := (HR.out.lt _ e).2; have := hW.size; omega) (by omega) hbig).mono ?_
        rintro e w4 ⟨g, cap, rfl, r4, g4, h4⟩
        have hln : (l.take i ++ ⟨x0, x1, .slice sa2 sn2 sc2, z0⟩ :: l.drop i).length = l.length + 1 := by simp; omega
        have hwh : ∀ b, (some g : Option Nat) = some b → (Value.slice a0 l.length c0).ownBlock = some b ∨ w.heap.size ≤ b := fun b hb => by
          cases hb
          rcases h4 with h4 | h4
          · exact .inl h4
          · right; have := hW'.size; omega
        refine ⟨_, rfl, ?_, ?_, hwh⟩
        · rw [hln, ← fm_ins In.k l i ⟨x0, x1, .slice sa2 sn2 sc2, z0⟩]
          refine row_base r4 (fun b hb => ?_)
          rcases hwh b hb with e | e
          · exact (HR.out.lt b e).1
          · omega
        · exact (Ch.of_below hW').trans (Ch.of_grown g4 (fun b hb _ => hb))
      have hi0 : (0 : Int) ≤ (i : Int) := by omega
      clear hF hG HP1 HE
      go_enter Tryz.func84, Tryz.ntmps84
      go_wp2_with (first
        | (go_at_call 85; refine (CK _).mono ?_; rintro e w1 ⟨rfl, b1⟩; (have HM : Hid (∀ W, Below (w1.alloc (.cells #[.int .u64 (x0 : Int)] 22)).heap.size (w1.alloc (.cells #[.int .u64 (x0 : Int)] 22)) W → (W.cell? ⟨w.heap.size, 0, none⟩ = some (.int .u64 (x0 : Int)) ∧ W.cell? ⟨w.heap.size, 1, none⟩ = some (.string (S x1)) ∧ W.cell? ⟨w.heap.size, 2, none⟩ = some (.slice sa2 sn2 sc2) ∧ W.cell? ⟨w.heap.size + 1, 0, none⟩ = some (.func (.func 85) #[] #[]) ∧ W.cell? ⟨w.heap.size + 1 + 1, 0, none⟩ = some (.func (.func 86) #[] #[]) ∧ W.cell? ⟨w1.heap.size, 0, none⟩ = some (.int .u64 (x0 : Int))) ∧ Below w.heap.size w W) := putm (HS := HS.out) b1); obtain ⟨q0, q1, q2, q3, q4⟩ := HS.out w1 b1; (have hz1 : w.heap.size + 3 ≤ w1.heap.size := by (have := b1.size; simp at this; omega)); (have n0 : w.heap.size < w1.heap.size := by omega); (have n1 : w.heap.size + 1 < w1.heap.size := by omega); (have n2 : w.heap.size + 1 + 1 < w1.heap.size := by omega); clear b1 CK)
        | (go_at_call 98; refine (CO _).mono ?_; rintro e w2 ⟨caps, rfl, hsay, b2⟩; obtain ⟨⟨r0, r1, r2, r3, r4, r5⟩, hB2⟩ := HM.out w2 b2; (have CI := indexIn_any (X := fun _ => False) (fun y => y.kk == x0) ((Rr.row In.k HR.out).up hB2) hn (enters_of Tryz.func156 (by kernel_rfl) rfl) (fun y hy => hsay (fun _ => False) (fun _ e => e.elim) y (o2 y hy))); (have B2 : Hid (Below w.heap.size w w2) := hB2); (have BM : Hid (Below (w1.alloc (.cells #[.int .u64 (x0 : Int)] 22)).heap.size (w1.alloc (.cells #[.int .u64 (x0 : Int)] 22)) w2) := b2); rw [e1] at CI; clear hsay b2 CO hB2 q0 q1 q2 q3 q4)
        | (go_at_call 139; refine CI.mono ?_; rintro e w3 ⟨rfl, b3⟩; (have B3 : Hid (Below w.heap.size w w3) := bel_of B2.out b3 (Nat.le_refl _)); obtain ⟨⟨t0, t1, t2, t3, t4, t5⟩, -⟩ := HM.out w3 (bel_of BM.out b3 (Nat.le_refl _)); (have CJ := CI2 w3 B3.out _ _ _ t4 t5 t3); clear CI2; (have BN : Hid (Below (w1.alloc (.cells #[.int .u64 (x0 : Int)] 22)).heap.size (w1.alloc (.cells #[.int .u64 (x0 : Int)] 22)) w3) := bel_of BM.out b3 (Nat.le_refl _)); clear b3 CI r0 r1 r2 r3 r4 r5)
        | (go_at_call 139; refine CJ.mono ?_; rintro e w4 ⟨rfl, b4⟩; obtain ⟨⟨v0, v1, v2, v3, v4, v5⟩, -⟩ := HM.out w4 (bel_of BN.out b4 (Nat.le_refl _)); (have CN := HI.out w4 (bel_of B3.out b4 (Nat.le_refl _))); clear b4 CJ HI t0 t1 t2 t3 t4 t5)
        | (go_at_call 141; refine CN.mono ?_; rintro e w5 ⟨v5, rfl, hr5⟩; (have H5 : Hid _ := hr5); clear hr5 CN))
      go_ret
      exact ⟨_, rfl, H5.out⟩
    | none =>
      have e2 : fix (fun y => ltU x0 y.kk) l = -1 := by unfold fix; rw [hG]
      rw [e2] at CI2
      have HE : Hid (putL In.kk ltU l ⟨x0, x1, .slice sa2 sn2 sc2, z0⟩ = l ++ [⟨x0, x1, .slice sa2 sn2 sc2, z0⟩]) := by show _ = _; unfold putL; simp only [In.kk] at hF hG ⊢; rw [hF, hG]
      rw [HE.out]
      obtain ⟨i9, hi9, hz0, hz1, hz2⟩ := info_parts infoIn
      have HI : Hid (∀ W, Below w.heap.size w W → ∃ v' w', (Builtin.append_ #[24, 24] 24 #[.slice a0 l.length c0, .slice (some ⟨W.heap.size, 0, none⟩) 1 1]).run Tryz.prog (W.alloc (.cells #[.int .u64 (x0 : Int), .string (S x1), .slice sa2 sn2 sc2] 95)) = .ok v' w' ∧ PtIn B w (.slice a0 l.length c0) (l ++ [⟨x0, x1, .slice sa2 sn2 sc2, z0⟩]) (.returned v') w') := by
        intro W hW
        have hW' : Below w.heap.size w (W.alloc (.cells #[.int .u64 (x0 : Int), .string (S x1), .slice sa2 sn2 sc2] 95)) := hW.trans ((Below.refl _ W).alloc hW.size _)
        have r1 := (Ch.of_below (X := fun _ => False) hW').row (row_zero HR.out) (fun _ _ e => e)
        obtain ⟨gg, cap, w', hrun, r4, g4, h4, -⟩ := run_append_where (P := Tryz.prog) (W.alloc (.cells #[.int .u64 (x0 : Int), .string (S x1), .slice sa2 sn2 sc2] 95)) 24 24 95 i9 _ 3 48 Tryz.underlying24 hi9 hz0 hz1 hz2 rfl (by decide) _ _ _ r1 ⟨W.heap.size, 0, none⟩ 1 1 [.int .u64 (x0 : Int), .string (S x1), .slice sa2 sn2 sc2] rfl
          (fun j u hj => by rw [Addr.add_lit]; exact cellsIn (heap_alloc_new W _) j u hj) (by intro u hu; simp at hu; rcases hu with rfl | rfl | rfl <;> rfl) (by decide) (by unfold maxLen; omega) (fitsIn _ hbig)
        have hwh : ∀ b, (some gg : Option Nat) = some b → (Value.slice a0 l.length c0).ownBlock = some b ∨ w.heap.size ≤ b := fun b hb => by
          cases hb
          rcases h4 with h4 | h4
          · exact .inl h4
          · right; have := hW'.size; omega
        refine ⟨_, _, hrun, _, rfl, ?_, (Ch.of_below hW').trans (Ch.of_grown g4 (fun b hb _ => hb)), hwh⟩
        rw [List.length_append, List.flatMap_append]
        refine row_base (by simpa [In.c] using r4) (fun b hb => ?_)
        rcases hwh b hb with e | e
        · exact (HR.out.lt b e).1
        · omega
      clear hF hG HP1 HE
      go_enter Tryz.func84, Tryz.ntmps84
      go_wp2_with (first
        | (go_at_call 85; refine (CK _).mono ?_; rintro e w1 ⟨rfl, b1⟩; (have HM : Hid (∀ W, Below (w1.alloc (.cells #[.int .u64 (x0 : Int)] 22)).heap.size (w1.alloc (.cells #[.int .u64 (x0 : Int)] 22)) W → (W.cell? ⟨w.heap.size, 0, none⟩ = some (.int .u64 (x0 : Int)) ∧ W.cell? ⟨w.heap.size, 1, none⟩ = some (.string (S x1)) ∧ W.cell? ⟨w.heap.size, 2, none⟩ = some (.slice sa2 sn2 sc2) ∧ W.cell? ⟨w.heap.size + 1, 0, none⟩ = some (.func (.func 85) #[] #[]) ∧ W.cell? ⟨w.heap.size + 1 + 1, 0, none⟩ = some (.func (.func 86) #[] #[]) ∧ W.cell? ⟨w1.heap.size, 0, none⟩ = some (.int .u64 (x0 : Int))) ∧ Below w.heap.size w W) := putm (HS := HS.out) b1); obtain ⟨q0, q1, q2, q3, q4⟩ := HS.out w1 b1; (have hz1 : w.heap.size + 3 ≤ w1.heap.size := by (have := b1.size; simp at this; omega)); (have n0 : w.heap.size < w1.heap.size := by omega); (have n1 : w.heap.size + 1 < w1.heap.size := by omega); (have n2 : w.heap.size + 1 + 1 < w1.heap.size := by omega); clear b1 CK)
        | (go_at_call 98; refine (CO _).mono ?_; rintro e w2 ⟨caps, rfl, hsay, b2⟩; obtain ⟨⟨r0, r1, r2, r3, r4, r5⟩, hB2⟩ := HM.out w2 b2; (have CI := indexIn_any (X := fun _ => False) (fun y => y.kk == x0) ((Rr.row In.k HR.out).up hB2) hn (enters_of Tryz.func156 (by kernel_rfl) rfl) (fun y hy => hsay (fun _ => False) (fun _ e => e.elim) y (o2 y hy))); (have B2 : Hid (Below w.heap.size w w2) := hB2); (have BM : Hid (Below (w1.alloc (.cells #[.int .u64 (x0 : Int)] 22)).heap.size (w1.alloc (.cells #[.int .u64 (x0 : Int)] 22)) w2) := b2); rw [e1] at CI; clear hsay b2 CO hB2 q0 q1 q2 q3 q4)
        | (go_at_call 139; refine CI.mono ?_; rintro e w3 ⟨rfl, b3⟩; (have B3 : Hid (Below w.heap.size w w3) := bel_of B2.out b3 (Nat.le_refl _)); obtain ⟨⟨t0, t1, t2, t3, t4, t5⟩, -⟩ := HM.out w3 (bel_of BM.out b3 (Nat.le_refl _)); (have CJ := CI2 w3 B3.out _ _ _ t4 t5 t3); clear CI2; (have BN : Hid (Below (w1.alloc (.cells #[.int .u64 (x0 : Int)] 22)).heap.size (w1.alloc (.cells #[.int .u64 (x0 : Int)] 22)) w3) := bel_of BM.out b3 (Nat.le_refl _)); clear b3 CI r0 r1 r2 r3 r4 r5)
        | (go_at_call 139; refine CJ.mono ?_; rintro e w4 ⟨rfl, b4⟩; obtain ⟨⟨v0, v1, v2, v3, v4, v5⟩, -⟩ := HM.out w4 (bel_of BN.out b4 (Nat.le_refl _)); obtain ⟨v5, w5, hrun, hpt⟩ := HI.out w4 (bel_of B3.out b4 (Nat.le_refl _)); (have H5 : Hid _ := hpt); clear b4 CJ HI hpt t0 t1 t2 t3 t4 t5)
        | (at_builtin; refine Lib.wpList_append_run _ rfl _ _ _ _ rfl _ _ rfl rfl _ _ hrun ?_))
      go_ret
      exact H5.out
end Go.Proofs.YthmfcloecmnfnaaGreat.f13

/-
  Package fold's keys, what of tells which elements are meant, and slices.IndexFunc, of every type of element.
-/
import Derived.Test.YthmfcloecmnfnaaGreatF13Base
import Derived.Deep.RegionHeld3
namespace Go.Proofs.YthmfcloecmnfnaaGreat.f13
open Go.RowKit Go.Shelf Go.Sort
open Go.Lib hiding intOf

def Ent0 (gf : Nat) : Prop := ∀ args w, (callFunc gf args).run Tryz.prog w = .ok (.enter gf args) w
/-- what the function in kf with caps says of a thing, whatever becomes of the blocks of X -/
def Say (X : Nat → Prop) (w : World) (kf : Nat) (caps : Array Value) (args : Array Value) (b : Bool) : Prop := ∀ W, Ch X w W → Calls Tryz.prog kf (args ++ caps) W fun e W' => e = .returned (.bool b) ∧ Below W.heap.size W W'
theorem Say.ch {X : Nat → Prop} {w w' : World} {kf : Nat} {caps args : Array Value} {b : Bool} (h : Say X w kf caps args b) (hb : Ch X w w') : Say X w' kf caps args b := fun W hW => h W (hb.trans hW)
theorem findIdx_next {α : Type} {q : α → Bool} {l : List α} {j : Nat} (hj : j < l.length) (h : ∀ (i : Nat) (hi : i < j), q (l[i]'(by omega)) = false) (hq : q l[j] = true) : l.findIdx? q = some j := by
  rw [List.findIdx?_eq_some_iff_getElem]
  exact ⟨hj, hq, fun i hi => by rw [h i hi]; simp⟩
theorem findIdx_none {α : Type} {q : α → Bool} {l : List α} (h : ∀ (i : Nat) (hi : i < l.length), q l[i] = false) : l.findIdx? q = none := by
  rw [List.findIdx?_eq_none_iff]
  intro x hx
  obtain ⟨i, hi, rfl⟩ := List.getElem_of_mem hx
  exact h i hi
/-- the place of the first that is so, as a number -/
def fix {α : Type} (q : α → Bool) (l : List α) : Int := match l.findIdx? q with
  | some i => (i : Int)
  | none => -1
def kT (x : List UInt8) : Value := .string (S x)
def kU (x : Nat) : Value := .int .u64 (x : Int)
def kP (x : Nat × Int) : Value := .agg #[.int .u64 (x.1 : Int), .int .i64 x.2]
def De.kk (x : De) : List UInt8 := x.id
def In.kk (x : In) : Nat := x.key
def Tk.kk (x : Tk) : Nat := x.key
def Jb.kk (x : Jb) : Nat := x.key
def Tm.kk (x : Tm) : Nat × Int := (x.token, x.node)
def Sb.kk (x : Sb) : Nat × Int := (x.token, x.node)
def Kp.kk (x : Kp) : Nat × Int := (x.token, x.node)
def Ls.kk (x : Ls) : Nat × Int := (x.token, x.node)
def Ms.kk (x : Ms) : Nat := x.key

set_option maxHeartbeats 1000000 in
theorem keyDe_any (x : De) (w : World) : Calls Tryz.prog 82 #[.agg (De.c x).toArray] w fun e w' => e = .returned (kT x.kk) ∧ Below w.heap.size w w' := by
  obtain ⟨x0, x1⟩ := x
  simp only [De.c, De.kk, kT]
  have B1 : Hid (Below w.heap.size w (w.alloc (.cells #[.string (S x0), .string (S x1)] 92))) := (Below.refl _ w).alloc (Nat.le_refl _) _
  go_enter Tryz.func82, Tryz.ntmps82
  go_wp2
  go_ret
  exact ⟨rfl, B1.out⟩

set_option maxHeartbeats 2000000 in
set_option maxRecDepth 100000 in
theorem ofDe1_any (x : De) (y : List UInt8) {w : World} {kb wb : Nat} (hk : w.cell? ⟨kb, 0, none⟩ = some (.func (.func 82) #[] #[])) (hy : w.cell? ⟨wb, 0, none⟩ = some (.string (S y))) :
    Calls Tryz.prog 184 #[.agg (De.c x).toArray, .pointer (some ⟨kb, 0, none⟩), .pointer (some ⟨wb, 0, none⟩)] w fun e w' => e = .returned (.bool (x.kk == y)) ∧ Below w.heap.size w w' := by
  have CK := fun W => keyDe_any x W
  have hkl := World.block_lt_of_cell? w _ hk
  have hyl := World.block_lt_of_cell? w _ hy
  obtain ⟨x0, x1⟩ := x
  simp only [De.c, De.kk, kT] at CK ⊢
  have hE : Hid ((x0 == y) = ((S x0).toList == (S y).toList)) := by show _ = _; rw [Bool.eq_iff_iff]; simp [S, toList_data]
  have hb0 : Below w.heap.size w (w.alloc (.cells #[.string (S x0), .string (S x1)] 92)) := (Below.refl _ w).alloc (Nat.le_refl _) _
  have HS : Hid (∀ W, Below (w.alloc (.cells #[.string (S x0), .string (S x1)] 92)).heap.size (w.alloc (.cells #[.string (S x0), .string (S x1)] 92)) W → W.cell? ⟨kb, 0, none⟩ = some (.func (.func 82) #[] #[]) ∧ W.cell? ⟨w.heap.size, 0, none⟩ = some (.string (S x0)) ∧ W.cell? ⟨w.heap.size, 1, none⟩ = some (.string (S x1)) ∧ W.cell? ⟨wb, 0, none⟩ = some (.string (S y))) := by
    intro W hW
    have hsz : w.heap.size < (w.alloc (.cells #[.string (S x0), .string (S x1)] 92)).heap.size := by simp
    exact ⟨(hW.cell (p := ⟨kb, 0, none⟩) (by simp at hkl ⊢; omega)).trans ((hb0.cell (p := ⟨kb, 0, none⟩) hkl).trans hk), (hW.cell (p := ⟨w.heap.size, 0, none⟩) hsz).trans (World.cell?_alloc_new _ _ _ _), (hW.cell (p := ⟨w.heap.size, 1, none⟩) hsz).trans (World.cell?_alloc_new _ _ _ _), (hW.cell (p := ⟨wb, 0, none⟩) (by simp at hyl ⊢; omega)).trans ((hb0.cell (p := ⟨wb, 0, none⟩) hyl).trans hy)⟩
  have B1 : Hid (Below w.heap.size w (w.alloc (.cells #[.string (S x0), .string (S x1)] 92))) := hb0
  clear hb0 hk hy hkl hyl
  go_enter Tryz.func184, Tryz.ntmps184
  go_wp2
  generalize (w.alloc (.cells #[.string (S x0), .string (S x1)] 92)) = W1 at *
  obtain ⟨c0, c1, c2, c3⟩ := HS.out _ (Below.refl _ _)
  go_region_held3 (fun W => W.cell? ⟨kb, 0, none⟩ = some (.func (.func 82) #[] #[]) ∧ W.cell? ⟨w.heap.size, 0, none⟩ = some (.string (S x0)) ∧ W.cell? ⟨w.heap.size, 1, none⟩ = some (.string (S x1)) ∧ W.cell? ⟨wb, 0, none⟩ = some (.string (S y)))
    (first | go_keep | exact HS.out _ (Below.refl _ _) | exact HS.out _ (Below.refl _ _).drew | exact HS.out _ hX)
    (first | (go_at_call 82; refine (CK _).mono ?_; rintro e u1 ⟨rfl, hX0⟩; (have hX : Below W1.heap.size W1 u1 := (Below.refl _ W1).drew.trans (hX0.mono (Nat.le_refl _))); (have B2 : Hid (Below w.heap.size w u1) := bel_of B1.out hX (Nat.le_refl _)); clear hX0))
  all_goals
    go_wp2
    go_ret
    rw [hE.out]
    exact ⟨by simp, B2.out⟩

set_option maxHeartbeats 1000000 in
theorem ofDe_any (y : List UInt8) (w : World) : Calls Tryz.prog 135 #[.func (.func 82) #[] #[], kT y] w fun e w' => ∃ caps, e = .returned (.func (.func 184) #[] caps) ∧ (∀ (X : Nat → Prop), (∀ g, X g → g < w.heap.size) → ∀ x : De, Say X w' 184 caps #[.agg (De.c x).toArray] (x.kk == y)) ∧ Below w.heap.size w w' := by
  have HE : Hid (∀ (X : Nat → Prop), (∀ g, X g → g < w.heap.size) → ∀ x : De, Say X ((w.alloc (.cells #[.func (.func 82) #[] #[]] 137)).alloc (.cells #[kT y] 9)) 184 #[.pointer (some ⟨w.heap.size, 0, none⟩), .pointer (some ⟨w.heap.size + 1, 0, none⟩)] #[.agg (De.c x).toArray] (x.kk == y)) := by
    intro X hX x W hW
    refine ofDe1_any x y (hW.cell (p := ⟨w.heap.size, 0, none⟩) ?_ (fun e => by have := hX _ e; simp only at this; omega)) (hW.cell (p := ⟨w.heap.size + 1, 0, none⟩) ?_ (fun e => by have := hX _ e; simp only at this; omega))
    · exact ((Bx.new w (.func (.func 82) #[] #[]) 137).alloc _).cell
    · have := (Bx.new (w.alloc (.cells #[.func (.func 82) #[] #[]] 137)) (kT y) 9).cell
      rw [World.size_alloc] at this
      exact this
  have B1 : Hid (Below w.heap.size w ((w.alloc (.cells #[.func (.func 82) #[] #[]] 137)).alloc (.cells #[kT y] 9))) := ((Below.refl _ w).alloc (Nat.le_refl _) _).alloc (by simp) _
  simp only [kT] at HE B1 ⊢
  go_enter Tryz.func135, Tryz.ntmps135
  go_wp2
  go_ret
  exact ⟨_, rfl, HE.out, B1.out⟩

set_option maxHeartbeats 1000000 in
theorem keyIn_any (x : In) (w : World) (h2 : x.vv.oneCell' = true) : Calls Tryz.prog 85 #[.agg (In.c x).toArray] w fun e w' => e = .returned (kU x.kk) ∧ Below w.heap.size w w' := by
  obtain ⟨x0, x1, x2, _⟩ := x
  simp only [In.c, In.kk, kU]
  have B1 : Hid (Below w.heap.size w (w.alloc (.cells #[.int .u64 (x0 : Int), .string (S x1), x2] 95))) := (Below.refl _ w).alloc (Nat.le_refl _) _
  go_enter Tryz.func85, Tryz.ntmps85
  go_wp2
  go_ret
  exact ⟨rfl, B1.out⟩

set_option maxHeartbeats 2000000 in
set_option maxRecDepth 100000 in
theorem ofIn1_any (x : In) (y : Nat) {w : World} {kb wb : Nat} (hk : w.cell? ⟨kb, 0, none⟩ = some (.func (.func 85) #[] #[])) (hy : w.cell? ⟨wb, 0, none⟩ = some (.int .u64 (y : Int))) (h2 : x.vv.oneCell' = true) :
    Calls Tryz.prog 156 #[.agg (In.c x).toArray, .pointer (some ⟨kb, 0, none⟩), .pointer (some ⟨wb, 0, none⟩)] w fun e w' => e = .returned (.bool (x.kk == y)) ∧ Below w.heap.size w w' := by
  have CK := fun W => keyIn_any x W h2
  have hkl := World.block_lt_of_cell? w _ hk
  have hyl := World.block_lt_of_cell? w _ hy
  obtain ⟨x0, x1, x2, _⟩ := x
  simp only [In.c, In.kk, kU] at CK ⊢
  have hE : Hid ((x0 == y) = ((x0 : Int) == (y : Int))) := by show _ = _; rw [Bool.eq_iff_iff, beq_iff_eq, beq_iff_eq]; omega
  have hb0 : Below w.heap.size w (w.alloc (.cells #[.int .u64 (x0 : Int), .string (S x1), x2] 95)) := (Below.refl _ w).alloc (Nat.le_refl _) _
  have HS : Hid (∀ W, Below (w.alloc (.cells #[.int .u64 (x0 : Int), .string (S x1), x2] 95)).heap.size (w.alloc (.cells #[.int .u64 (x0 : Int), .string (S x1), x2] 95)) W → W.cell? ⟨kb, 0, none⟩ = some (.func (.func 85) #[] #[]) ∧ W.cell? ⟨w.heap.size, 0, none⟩ = some (.int .u64 (x0 : Int)) ∧ W.cell? ⟨w.heap.size, 1, none⟩ = some (.string (S x1)) ∧ W.cell? ⟨w.heap.size, 2, none⟩ = some (x2) ∧ W.cell? ⟨wb, 0, none⟩ = some (.int .u64 (y : Int))) := by
    intro W hW
    have hsz : w.heap.size < (w.alloc (.cells #[.int .u64 (x0 : Int), .string (S x1), x2] 95)).heap.size := by simp
    exact ⟨(hW.cell (p := ⟨kb, 0, none⟩) (by simp at hkl ⊢; omega)).trans ((hb0.cell (p := ⟨kb, 0, none⟩) hkl).trans hk), (hW.cell (p := ⟨w.heap.size, 0, none⟩) hsz).trans (World.cell?_alloc_new _ _ _ _), (hW.cell (p := ⟨w.heap.size, 1, none⟩) hsz).trans (World.cell?_alloc_new _ _ _ _), (hW.cell (p := ⟨w.heap.size, 2, none⟩) hsz).trans (World.cell?_alloc_new _ _ _ _), (hW.cell (p := ⟨wb, 0, none⟩) (by simp at hyl ⊢; omega)).trans ((hb0.cell (p := ⟨wb, 0, none⟩) hyl).trans hy)⟩
  have B1 : Hid (Below w.heap.size w (w.alloc (.cells #[.int .u64 (x0 : Int), .string (S x1), x2] 95))) := hb0
  clear hb0 hk hy hkl hyl
  go_enter Tryz.func156, Tryz.ntmps156
  go_wp2
  generalize (w.alloc (.cells #[.int .u64 (x0 : Int), .string (S x1), x2] 95)) = W1 at *
  obtain ⟨c0, c1, c2, c3, c4⟩ := HS.out _ (Below.refl _ _)
  go_region_held3 (fun W => W.cell? ⟨kb, 0, none⟩ = some (.func (.func 85) #[] #[]) ∧ W.cell? ⟨w.heap.size, 0, none⟩ = some (.int .u64 (x0 : Int)) ∧ W.cell? ⟨w.heap.size, 1, none⟩ = some (.string (S x1)) ∧ W.cell? ⟨w.heap.size, 2, none⟩ = some (x2) ∧ W.cell? ⟨wb, 0, none⟩ = some (.int .u64 (y : Int)))
    (first | go_keep | exact HS.out _ (Below.refl _ _) | exact HS.out _ (Below.refl _ _).drew | exact HS.out _ hX)
    (first | (go_at_call 85; refine (CK _).mono ?_; rintro e u1 ⟨rfl, hX0⟩; (have hX : Below W1.heap.size W1 u1 := (Below.refl _ W1).drew.trans (hX0.mono (Nat.le_refl _))); (have B2 : Hid (Below w.heap.size w u1) := bel_of B1.out hX (Nat.le_refl _)); clear hX0))
  all_goals
    go_wp2
    go_ret
    rw [hE.out]
    exact ⟨by simp, B2.out⟩

set_option maxHeartbeats 1000000 in
theorem ofIn_any (y : Nat) (w : World) : Calls Tryz.prog 98 #[.func (.func 85) #[] #[], kU y] w fun e w' => ∃ caps, e = .returned (.func (.func 156) #[] caps) ∧ (∀ (X : Nat → Prop), (∀ g, X g → g < w.heap.size) → ∀ x : In, x.vv.oneCell' = true → Say X w' 156 caps #[.agg (In.c x).toArray] (x.kk == y)) ∧ Below w.heap.size w w' := by
  have HE : Hid (∀ (X : Nat → Prop), (∀ g, X g → g < w.heap.size) → ∀ x : In, x.vv.oneCell' = true → Say X ((w.alloc (.cells #[.func (.func 85) #[] #[]] 140)).alloc (.cells #[kU y] 22)) 156 #[.pointer (some ⟨w.heap.size, 0, none⟩), .pointer (some ⟨w.heap.size + 1, 0, none⟩)] #[.agg (In.c x).toArray] (x.kk == y)) := by
    intro X hX x h2 W hW
    refine ofIn1_any x y (hW.cell (p := ⟨w.heap.size, 0, none⟩) ?_ (fun e => by have := hX _ e; simp only at this; omega)) (hW.cell (p := ⟨w.heap.size + 1, 0, none⟩) ?_ (fun e => by have := hX _ e; simp only at this; omega)) h2
    · exact ((Bx.new w (.func (.func 85) #[] #[]) 140).alloc _).cell
    · have := (Bx.new (w.alloc (.cells #[.func (.func 85) #[] #[]] 140)) (kU y) 22).cell
      rw [World.size_alloc] at this
      exact this
  have B1 : Hid (Below w.heap.size w ((w.alloc (.cells #[.func (.func 85) #[] #[]] 140)).alloc (.cells #[kU y] 22))) := ((Below.refl _ w).alloc (Nat.le_refl _) _).alloc (by simp) _
  simp only [kU] at HE B1 ⊢
  go_enter Tryz.func98, Tryz.ntmps98
  go_wp2
  go_ret
  exact ⟨_, rfl, HE.out, B1.out⟩

set_option maxHeartbeats 1000000 in
theorem keyTk_any (x : Tk) (w : World) : Calls Tryz.prog 88 #[.agg (Tk.c x).toArray] w fun e w' => e = .returned (kU x.kk) ∧ Below w.heap.size w w' := by
  obtain ⟨x0, x1, x2, x3, x4, x5⟩ := x
  simp only [Tk.c, Tk.kk, kU]
  have B1 : Hid (Below w.heap.size w (w.alloc (.cells #[.int .u64 (x0 : Int), .int .u64 (x1 : Int), .int .u64 (x2 : Int), .int .i64 x3, .int .i64 x4, .string (S x5)] 66))) := (Below.refl _ w).alloc (Nat.le_refl _) _
  go_enter Tryz.func88, Tryz.ntmps88
  go_wp2
  go_ret
  exact ⟨rfl, B1.out⟩

set_option maxHeartbeats 2000000 in
set_option maxRecDepth 100000 in
theorem ofTk1_any (x : Tk) (y : Nat) {w : World} {kb wb : Nat} (hk : w.cell? ⟨kb, 0, none⟩ = some (.func (.func 88) #[] #[])) (hy : w.cell? ⟨wb, 0, none⟩ = some (.int .u64 (y : Int))) :
    Calls Tryz.prog 147 #[.agg (Tk.c x).toArray, .pointer (some ⟨kb, 0, none⟩), .pointer (some ⟨wb, 0, none⟩)] w fun e w' => e = .returned (.bool (x.kk == y)) ∧ Below w.heap.size w w' := by
  have CK := fun W => keyTk_any x W
  have hkl := World.block_lt_of_cell? w _ hk
  have hyl := World.block_lt_of_cell? w _ hy
  obtain ⟨x0, x1, x2, x3, x4, x5⟩ := x
  simp only [Tk.c, Tk.kk, kU] at CK ⊢
  have hE : Hid ((x0 == y) = ((x0 : Int) == (y : Int))) := by show _ = _; rw [Bool.eq_iff_iff, beq_iff_eq, beq_iff_eq]; omega
  have hb0 : Below w.heap.size w (w.alloc (.cells #[.int .u64 (x0 : Int), .int .u64 (x1 : Int), .int .u64 (x2 : Int), .int .i64 x3, .int .i64 x4, .string (S x5)] 66)) := (Below.refl _ w).alloc (Nat.le_refl _) _
  have HS : Hid (∀ W, Below (w.alloc (.cells #[.int .u64 (x0 : Int), .int .u64 (x1 : Int), .int .u64 (x2 : Int), .int .i64 x3, .int .i64 x4, .string (S x5)] 66)).heap.size (w.alloc (.cells #[.int .u64 (x0 : Int), .int .u64 (x1 : Int), .int .u64 (x2 : Int), .int .i64 x3, .int .i64 x4, .string (S x5)] 66)) W → W.cell? ⟨kb, 0, none⟩ = some (.func (.func 88) #[] #[]) ∧ W.cell? ⟨w.heap.size, 0, none⟩ = some (.int .u64 (x0 : Int)) ∧ W.cell? ⟨w.heap.size, 1, none⟩ = some (.int .u64 (x1 : Int)) ∧ W.cell? ⟨w.heap.size, 2, none⟩ = some (.int .u64 (x2 : Int)) ∧ W.cell? ⟨w.heap.size, 3, none⟩ = some (.int .i64 x3) ∧ W.cell? ⟨w.heap.size, 4, none⟩ = some (.int .i64 x4) ∧ W.cell? ⟨w.heap.size, 5, none⟩ = some (.string (S x5)) ∧ W.cell? ⟨wb, 0, none⟩ = some (.int .u64 (y : Int))) := by
    intro W hW
    have hsz : w.heap.size < (w.alloc (.cells #[.int .u64 (x0 : Int), .int .u64 (x1 : Int), .int .u64 (x2 : Int), .int .i64 x3, .int .i64 x4, .string (S x5)] 66)).heap.size := by simp
    exact ⟨(hW.cell (p := ⟨kb, 0, none⟩) (by simp at hkl ⊢; omega)).trans ((hb0.cell (p := ⟨kb, 0, none⟩) hkl).trans hk), (hW.cell (p := ⟨w.heap.size, 0, none⟩) hsz).trans (World.cell?_alloc_new _ _ _ _), (hW.cell (p := ⟨w.heap.size, 1, none⟩) hsz).trans (World.cell?_alloc_new _ _ _ _), (hW.cell (p := ⟨w.heap.size, 2, none⟩) hsz).trans (World.cell?_alloc_new _ _ _ _), (hW.cell (p := ⟨w.heap.size, 3, none⟩) hsz).trans (World.cell?_alloc_new _ _ _ _), (hW.cell (p := ⟨w.heap.size, 4, none⟩) hsz).trans (World.cell?_alloc_new _ _ _ _), (hW.cell (p := ⟨w.heap.size, 5, none⟩) hsz).trans (World.cell?_alloc_new _ _ _ _), (hW.cell (p := ⟨wb, 0, none⟩) (by simp at hyl ⊢; omega)).trans ((hb0.cell (p := ⟨wb, 0, none⟩) hyl).trans hy)⟩
  have B1 : Hid (Below w.heap.size w (w.alloc (.cells #[.int .u64 (x0 : Int), .int .u64 (x1 : Int), .int .u64 (x2 : Int), .int .i64 x3, .int .i64 x4, .string (S x5)] 66))) := hb0
  clear hb0 hk hy hkl hyl
  go_enter Tryz.func147, Tryz.ntmps147
  go_wp2
  generalize (w.alloc (.cells #[.int .u64 (x0 : Int), .int .u64 (x1 : Int), .int .u64 (x2 : Int), .int .i64 x3, .int .i64 x4, .string (S x5)] 66)) = W1 at *
  obtain ⟨c0, c1, c2, c3, c4, c5, c6, c7⟩ := HS.out _ (Below.refl _ _)
  go_region_held3 (fun W => W.cell? ⟨kb, 0, none⟩ = some (.func (.func 88) #[] #[]) ∧ W.cell? ⟨w.heap.size, 0, none⟩ = some (.int .u64 (x0 : Int)) ∧ W.cell? ⟨w.heap.size, 1, none⟩ = some (.int .u64 (x1 : Int)) ∧ W.cell? ⟨w.heap.size, 2, none⟩ = some (.int .u64 (x2 : Int)) ∧ W.cell? ⟨w.heap.size, 3, none⟩ = some (.int .i64 x3) ∧ W.cell? ⟨w.heap.size, 4, none⟩ = some (.int .i64 x4) ∧ W.cell? ⟨w.heap.size, 5, none⟩ = some (.string (S x5)) ∧ W.cell? ⟨wb, 0, none⟩ = some (.int .u64 (y : Int)))
    (first | go_keep | exact HS.out _ (Below.refl _ _) | exact HS.out _ (Below.refl _ _).drew | exact HS.out _ hX)
    (first | (go_at_call 88; refine (CK _).mono ?_; rintro e u1 ⟨rfl, hX0⟩; (have hX : Below W1.heap.size W1 u1 := (Below.refl _ W1).drew.trans (hX0.mono (Nat.le_refl _))); (have B2 : Hid (Below w.heap.size w u1) := bel_of B1.out hX (Nat.le_refl _)); clear hX0))
  all_goals
    go_wp2
    go_ret
    rw [hE.out]
    exact ⟨by simp, B2.out⟩

set_option maxHeartbeats 1000000 in
theorem ofTk_any (y : Nat) (w : World) : Calls Tryz.prog 90 #[.func (.func 88) #[] #[], kU y] w fun e w' => ∃ caps, e = .returned (.func (.func 147) #[] caps) ∧ (∀ (X : Nat → Prop), (∀ g, X g → g < w.heap.size) → ∀ x : Tk, Say X w' 147 caps #[.agg (Tk.c x).toArray] (x.kk == y)) ∧ Below w.heap.size w w' := by
  have HE : Hid (∀ (X : Nat → Prop), (∀ g, X g → g < w.heap.size) → ∀ x : Tk, Say X ((w.alloc (.cells #[.func (.func 88) #[] #[]] 143)).alloc (.cells #[kU y] 22)) 147 #[.pointer (some ⟨w.heap.size, 0, none⟩), .pointer (some ⟨w.heap.size + 1, 0, none⟩)] #[.agg (Tk.c x).toArray] (x.kk == y)) := by
    intro X hX x W hW
    refine ofTk1_any x y (hW.cell (p := ⟨w.heap.size, 0, none⟩) ?_ (fun e => by have := hX _ e; simp only at this; omega)) (hW.cell (p := ⟨w.heap.size + 1, 0, none⟩) ?_ (fun e => by have := hX _ e; simp only at this; omega))
    · exact ((Bx.new w (.func (.func 88) #[] #[]) 143).alloc _).cell
    · have := (Bx.new (w.alloc (.cells #[.func (.func 88) #[] #[]] 143)) (kU y) 22).cell
      rw [World.size_alloc] at this
      exact this
  have B1 : Hid (Below w.heap.size w ((w.alloc (.cells #[.func (.func 88) #[] #[]] 143)).alloc (.cells #[kU y] 22))) := ((Below.refl _ w).alloc (Nat.le_refl _) _).alloc (by simp) _
  simp only [kU] at HE B1 ⊢
  go_enter Tryz.func90, Tryz.ntmps90
  go_wp2
  go_ret
  exact ⟨_, rfl, HE.out, B1.out⟩

set_option maxHeartbeats 1000000 in
theorem keyJb_any (x : Jb) (w : World) : Calls Tryz.prog 57 #[.agg (Jb.c x).toArray] w fun e w' => e = .returned (kU x.kk) ∧ Below w.heap.size w w' := by
  obtain ⟨x0, x1, x2, x3, x4, x5⟩ := x
  simp only [Jb.c, Jb.kk, kU]
  have B1 : Hid (Below w.heap.size w (w.alloc (.cells #[.int .u64 (x0 : Int), .int .u64 (x1 : Int), .string (S x2), .int .i64 x3, .string (S x4), .int .i64 x5] 46))) := (Below.refl _ w).alloc (Nat.le_refl _) _
  go_enter Tryz.func57, Tryz.ntmps57
  go_wp2
  go_ret
  exact ⟨rfl, B1.out⟩

set_option maxHeartbeats 2000000 in
set_option maxRecDepth 100000 in
theorem ofJb1_any (x : Jb) (y : Nat) {w : World} {kb wb : Nat} (hk : w.cell? ⟨kb, 0, none⟩ = some (.func (.func 57) #[] #[])) (hy : w.cell? ⟨wb, 0, none⟩ = some (.int .u64 (y : Int))) :
    Calls Tryz.prog 80 #[.agg (Jb.c x).toArray, .pointer (some ⟨kb, 0, none⟩), .pointer (some ⟨wb, 0, none⟩)] w fun e w' => e = .returned (.bool (x.kk == y)) ∧ Below w.heap.size w w' := by
  have CK := fun W => keyJb_any x W
  have hkl := World.block_lt_of_cell? w _ hk
  have hyl := World.block_lt_of_cell? w _ hy
  obtain ⟨x0, x1, x2, x3, x4, x5⟩ := x
  simp only [Jb.c, Jb.kk, kU] at CK ⊢
  have hE : Hid ((x0 == y) = ((x0 : Int) == (y : Int))) := by show _ = _; rw [Bool.eq_iff_iff, beq_iff_eq, beq_iff_eq]; omega
  have hb0 : Below w.heap.size w (w.alloc (.cells #[.int .u64 (x0 : Int), .int .u64 (x1 : Int), .string (S x2), .int .i64 x3, .string (S x4), .int .i64 x5] 46)) := (Below.refl _ w).alloc (Nat.le_refl _) _
  have HS : Hid (∀ W, Below (w.alloc (.cells #[.int .u64 (x0 : Int), .int .u64 (x1 : Int), .string (S x2), .int .i64 x3, .string (S x4), .int .i64 x5] 46)).heap.size (w.alloc (.cells #[.int .u64 (x0 : Int), .int .u64 (x1 : Int), .string (S x2), .int .i64 x3, .string (S x4), .int .i64 x5] 46)) W → W.cell? ⟨kb, 0, none⟩ = some (.func (.func 57) #[] #[]) ∧ W.cell? ⟨w.heap.size, 0, none⟩ = some (.int .u64 (x0 : Int)) ∧ W.cell? ⟨w.heap.size, 1, none⟩ = some (.int .u64 (x1 : Int)) ∧ W.cell? ⟨w.heap.size, 2, none⟩ = some (.string (S x2)) ∧ W.cell? ⟨w.heap.size, 3, none⟩ = some (.int .i64 x3) ∧ W.cell? ⟨w.heap.size, 4, none⟩ = some (.string (S x4)) ∧ W.cell? ⟨w.heap.size, 5, none⟩ = some (.int .i64 x5) ∧ W.cell? ⟨wb, 0, none⟩ = some (.int .u64 (y : Int))) := by
    intro W hW
    have hsz : w.heap.size < (w.alloc (.cells #[.int .u64 (x0 : Int), .int .u64 (x1 : Int), .string (S x2), .int .i64 x3, .string (S x4), .int .i64 x5] 46)).heap.size := by simp
    exact ⟨(hW.cell (p := ⟨kb, 0, none⟩) (by simp at hkl ⊢; omega)).trans ((hb0.cell (p := ⟨kb, 0, none⟩) hkl).trans hk), (hW.cell (p := ⟨w.heap.size, 0, none⟩) hsz).trans (World.cell?_alloc_new _ _ _ _), (hW.cell (p := ⟨w.heap.size, 1, none⟩) hsz).trans (World.cell?_alloc_new _ _ _ _), (hW.cell (p := ⟨w.heap.size, 2, none⟩) hsz).trans (World.cell?_alloc_new _ _ _ _), (hW.cell (p := ⟨w.heap.size, 3, none⟩) hsz).trans (World.cell?_alloc_new _ _ _ _), (hW.cell (p := ⟨w.heap.size, 4, none⟩) hsz).trans (World.cell?_alloc_new _ _ _ _), (hW.cell (p := ⟨w.heap.size, 5, none⟩) hsz).trans (World.cell?_alloc_new _ _ _ _), (hW.cell (p := ⟨wb, 0, none⟩) (by simp at hyl ⊢; omega)).trans ((hb0.cell (p := ⟨wb, 0, none⟩) hyl).trans hy)⟩
  have B1 : Hid (Below w.heap.size w (w.alloc (.cells #[.int .u64 (x0 : Int), .int .u64 (x1 : Int), .string (S x2), .int .i64 x3, .string (S x4), .int .i64 x5] 46))) := hb0
  clear hb0 hk hy hkl hyl
  go_enter Tryz.func80, Tryz.ntmps80
  go_wp2
  generalize (w.alloc (.cells #[.int .u64 (x0 : Int), .int .u64 (x1 : Int), .string (S x2), .int .i64 x3, .string (S x4), .int .i64 x5] 46)) = W1 at *
  obtain ⟨c0, c1, c2, c3, c4, c5, c6, c7⟩ := HS.out _ (Below.refl _ _)
  go_region_held3 (fun W => W.cell? ⟨kb, 0, none⟩ = some (.func (.func 57) #[] #[]) ∧ W.cell? ⟨w.heap.size, 0, none⟩ = some (.int .u64 (x0 : Int)) ∧ W.cell? ⟨w.heap.size, 1, none⟩ = some (.int .u64 (x1 : Int)) ∧ W.cell? ⟨w.heap.size, 2, none⟩ = some (.string (S x2)) ∧ W.cell? ⟨w.heap.size, 3, none⟩ = some (.int .i64 x3) ∧ W.cell? ⟨w.heap.size, 4, none⟩ = some (.string (S x4)) ∧ W.cell? ⟨w.heap.size, 5, none⟩ = some (.int .i64 x5) ∧ W.cell? ⟨wb, 0, none⟩ = some (.int .u64 (y : Int)))
    (first | go_keep | exact HS.out _ (Below.refl _ _) | exact HS.out _ (Below.refl _ _).drew | exact HS.out _ hX)
    (first | (go_at_call 57; refine (CK _).mono ?_; rintro e u1 ⟨rfl, hX0⟩; (have hX : Below W1.heap.size W1 u1 := (Below.refl _ W1).drew.trans (hX0.mono (Nat.le_refl _))); (have B2 : Hid (Below w.heap.size w u1) := bel_of B1.out hX (Nat.le_refl _)); clear hX0))
  all_goals
    go_wp2
    go_ret
    rw [hE.out]
    exact ⟨by simp, B2.out⟩

set_option maxHeartbeats 1000000 in
theorem ofJb_any (y : Nat) (w : World) : Calls Tryz.prog 56 #[.func (.func 57) #[] #[], kU y] w fun e w' => ∃ caps, e = .returned (.func (.func 80) #[] caps) ∧ (∀ (X : Nat → Prop), (∀ g, X g → g < w.heap.size) → ∀ x : Jb, Say X w' 80 caps #[.agg (Jb.c x).toArray] (x.kk == y)) ∧ Below w.heap.size w w' := by
  have HE : Hid (∀ (X : Nat → Prop), (∀ g, X g → g < w.heap.size) → ∀ x : Jb, Say X ((w.alloc (.cells #[.func (.func 57) #[] #[]] 134)).alloc (.cells #[kU y] 22)) 80 #[.pointer (some ⟨w.heap.size, 0, none⟩), .pointer (some ⟨w.heap.size + 1, 0, none⟩)] #[.agg (Jb.c x).toArray] (x.kk == y)) := by
    intro X hX x W hW
    refine ofJb1_any x y (hW.cell (p := ⟨w.heap.size, 0, none⟩) ?_ (fun e => by have := hX _ e; simp only at this; omega)) (hW.cell (p := ⟨w.heap.size + 1, 0, none⟩) ?_ (fun e => by have := hX _ e; simp only at this; omega))
    · exact ((Bx.new w (.func (.func 57) #[] #[]) 134).alloc _).cell
    · have := (Bx.new (w.alloc (.cells #[.func (.func 57) #[] #[]] 134)) (kU y) 22).cell
      rw [World.size_alloc] at this
      exact this
  have B1 : Hid (Below w.heap.size w ((w.alloc (.cells #[.func (.func 57) #[] #[]] 134)).alloc (.cells #[kU y] 22))) := ((Below.refl _ w).alloc (Nat.le_refl _) _).alloc (by simp) _
  simp only [kU] at HE B1 ⊢
  go_enter Tryz.func56, Tryz.ntmps56
  go_wp2
  go_ret
  exact ⟨_, rfl, HE.out, B1.out⟩

set_option maxHeartbeats 1000000 in
theorem keyMs_any (x : Ms) (w : World) (h5 : x.vv.oneCell' = true) (h6 : x.iv.oneCell' = true) : Calls Tryz.prog 120 #[.agg (Ms.c x).toArray] w fun e w' => e = .returned (kU x.kk) ∧ Below w.heap.size w w' := by
  obtain ⟨x0, x1, x2, x3, x4, x5, x6, _, _⟩ := x
  simp only [Ms.c, Ms.kk, kU]
  have B1 : Hid (Below w.heap.size w (w.alloc (.cells #[.int .u64 (x0 : Int), .string (S x1), .string (S x2), .string (S x3), .int .i64 x4, x5, x6] 74))) := (Below.refl _ w).alloc (Nat.le_refl _) _
  go_enter Tryz.func120, Tryz.ntmps120
  go_wp2
  go_ret
  exact ⟨rfl, B1.out⟩

set_option maxHeartbeats 2000000 in
set_option maxRecDepth 100000 in
theorem ofMs1_any (x : Ms) (y : Nat) {w : World} {kb wb : Nat} (hk : w.cell? ⟨kb, 0, none⟩ = some (.func (.func 120) #[] #[])) (hy : w.cell? ⟨wb, 0, none⟩ = some (.int .u64 (y : Int))) (h5 : x.vv.oneCell' = true) (h6 : x.iv.oneCell' = true) :
    Calls Tryz.prog 180 #[.agg (Ms.c x).toArray, .pointer (some ⟨kb, 0, none⟩), .pointer (some ⟨wb, 0, none⟩)] w fun e w' => e = .returned (.bool (x.kk == y)) ∧ Below w.heap.size w w' := by
  have CK := fun W => keyMs_any x W h5 h6
  have hkl := World.block_lt_of_cell? w _ hk
  have hyl := World.block_lt_of_cell? w _ hy
  obtain ⟨x0, x1, x2, x3, x4, x5, x6, _, _⟩ := x
  simp only [Ms.c, Ms.kk, kU] at CK ⊢
  have hE : Hid ((x0 == y) = ((x0 : Int) == (y : Int))) := by show _ = _; rw [Bool.eq_iff_iff, beq_iff_eq, beq_iff_eq]; omega
  have hb0 : Below w.heap.size w (w.alloc (.cells #[.int .u64 (x0 : Int), .string (S x1), .string (S x2), .string (S x3), .int .i64 x4, x5, x6] 74)) := (Below.refl _ w).alloc (Nat.le_refl _) _
  have HS : Hid (∀ W, Below (w.alloc (.cells #[.int .u64 (x0 : Int), .string (S x1), .string (S x2), .string (S x3), .int .i64 x4, x5, x6] 74)).heap.size (w.alloc (.cells #[.int .u64 (x0 : Int), .string (S x1), .string (S x2), .string (S x3), .int .i64 x4, x5, x6] 74)) W → W.cell? ⟨kb, 0, none⟩ = some (.func (.func 120) #[] #[]) ∧ W.cell? ⟨w.heap.size, 0, none⟩ = some (.int .u64 (x0 : Int)) ∧ W.cell? ⟨w.heap.size, 1, none⟩ = some (.string (S x1)) ∧ W.cell? ⟨w.heap.size, 2, none⟩ = some (.string (S x2)) ∧ W.cell? ⟨w.heap.size, 3, none⟩ = some (.string (S x3)) ∧ W.cell? ⟨w.heap.size, 4, none⟩ = some (.int .i64 x4) ∧ W.cell? ⟨w.heap.size, 5, none⟩ = some (x5) ∧ W.cell? ⟨w.heap.size, 6, none⟩ = some (x6) ∧ W.cell? ⟨wb, 0, none⟩ = some (.int .u64 (y : Int))) := by
    intro W hW
    have hsz : w.heap.size < (w.alloc (.cells #[.int .u64 (x0 : Int), .string (S x1), .string (S x2), .string (S x3), .int .i64 x4, x5, x6] 74)).heap.size := by simp
    exact ⟨(hW.cell (p := ⟨kb, 0, none⟩) (by simp at hkl ⊢; omega)).trans ((hb0.cell (p := ⟨kb, 0, none⟩) hkl).trans hk), (hW.cell (p := ⟨w.heap.size, 0, none⟩) hsz).trans (World.cell?_alloc_new _ _ _ _), (hW.cell (p := ⟨w.heap.size, 1, none⟩) hsz).trans (World.cell?_alloc_new _ _ _ _), (hW.cell (p := ⟨w.heap.size, 2, none⟩) hsz).trans (World.cell?_alloc_new _ _ _ _), (hW.cell (p := ⟨w.heap.size, 3, none⟩) hsz).trans (World.cell?_alloc_new _ _ _ _), (hW.cell (p := ⟨w.heap.size, 4, none⟩) hsz).trans (World.cell?_alloc_new _ _ _ _), (hW.cell (p := ⟨w.heap.size, 5, none⟩) hsz).trans (World.cell?_alloc_new _ _ _ _), (hW.cell (p := ⟨w.heap.size, 6, none⟩) hsz).trans (World.cell?_alloc_new _ _ _ _), (hW.cell (p := ⟨wb, 0, none⟩) (by simp at hyl ⊢; omega)).trans ((hb0.cell (p := ⟨wb, 0, none⟩) hyl).trans hy)⟩
  have B1 : Hid (Below w.heap.size w (w.alloc (.cells #[.int .u64 (x0 : Int), .string (S x1), .string (S x2), .string (S x3), .int .i64 x4, x5, x6] 74))) := hb0
  clear hb0 hk hy hkl hyl
  go_enter Tryz.func180, Tryz.ntmps180
  go_wp2
  generalize (w.alloc (.cells #[.int .u64 (x0 : Int), .string (S x1), .string (S x2), .string (S x3), .int .i64 x4, x5, x6] 74)) = W1 at *
  obtain ⟨c0, c1, c2, c3, c4, c5, c6, c7, c8⟩ := HS.out _ (Below.refl _ _)
  go_region_held3 (fun W => W.cell? ⟨kb, 0, none⟩ = some (.func (.func 120) #[] #[]) ∧ W.cell? ⟨w.heap.size, 0, none⟩ = some (.int .u64 (x0 : Int)) ∧ W.cell? ⟨w.heap.size, 1, none⟩ = some (.string (S x1)) ∧ W.cell? ⟨w.heap.size, 2, none⟩ = some (.string (S x2)) ∧ W.cell? ⟨w.heap.size, 3, none⟩ = some (.string (S x3)) ∧ W.cell? ⟨w.heap.size, 4, none⟩ = some (.int .i64 x4) ∧ W.cell? ⟨w.heap.size, 5, none⟩ = some (x5) ∧ W.cell? ⟨w.heap.size, 6, none⟩ = some (x6) ∧ W.cell? ⟨wb, 0, none⟩ = some (.int .u64 (y : Int)))
    (first | go_keep | exact HS.out _ (Below.refl _ _) | exact HS.out _ (Below.refl _ _).drew | exact HS.out _ hX)
    (first | (go_at_call 120; refine (CK _).mono ?_; rintro e u1 ⟨rfl, hX0⟩; (have hX : Below W1.heap.size W1 u1 := (Below.refl _ W1).drew.trans (hX0.mono (Nat.le_refl _))); (have B2 : Hid (Below w.heap.size w u1) := bel_of B1.out hX (Nat.le_refl _)); clear hX0))
  all_goals
    go_wp2
    go_ret
    rw [hE.out]
    exact ⟨by simp, B2.out⟩

set_option maxHeartbeats 1000000 in
theorem ofMs_any (y : Nat) (w : World) : Calls Tryz.prog 122 #[.func (.func 120) #[] #[], kU y] w fun e w' => ∃ caps, e = .returned (.func (.func 180) #[] caps) ∧ (∀ (X : Nat → Prop), (∀ g, X g → g < w.heap.size) → ∀ x : Ms, x.vv.oneCell' = true → x.iv.oneCell' = true → Say X w' 180 caps #[.agg (Ms.c x).toArray] (x.kk == y)) ∧ Below w.heap.size w w' := by
  have HE : Hid (∀ (X : Nat → Prop), (∀ g, X g → g < w.heap.size) → ∀ x : Ms, x.vv.oneCell' = true → x.iv.oneCell' = true → Say X ((w.alloc (.cells #[.func (.func 120) #[] #[]] 182)).alloc (.cells #[kU y] 22)) 180 #[.pointer (some ⟨w.heap.size, 0, none⟩), .pointer (some ⟨w.heap.size + 1, 0, none⟩)] #[.agg (Ms.c x).toArray] (x.kk == y)) := by
    intro X hX x h5 h6 W hW
    refine ofMs1_any x y (hW.cell (p := ⟨w.heap.size, 0, none⟩) ?_ (fun e => by have := hX _ e; simp only at this; omega)) (hW.cell (p := ⟨w.heap.size + 1, 0, none⟩) ?_ (fun e => by have := hX _ e; simp only at this; omega)) h5 h6
    · exact ((Bx.new w (.func (.func 120) #[] #[]) 182).alloc _).cell
    · have := (Bx.new (w.alloc (.cells #[.func (.func 120) #[] #[]] 182)) (kU y) 22).cell
      rw [World.size_alloc] at this
      exact this
  have B1 : Hid (Below w.heap.size w ((w.alloc (.cells #[.func (.func 120) #[] #[]] 182)).alloc (.cells #[kU y] 22))) := ((Below.refl _ w).alloc (Nat.le_refl _) _).alloc (by simp) _
  simp only [kU] at HE B1 ⊢
  go_enter Tryz.func122, Tryz.ntmps122
  go_wp2
  go_ret
  exact ⟨_, rfl, HE.out, B1.out⟩
end Go.Proofs.YthmfcloecmnfnaaGreat.f13

/-
  ExprCompares' texts: their parts, what these come to.
-/
import Derived.Test.YtpdengbdnijcfaaGreatDoorX10Lgc
namespace Go.Proofs.YtpdengbdnijcfaaGreatDoor.x10
open Go.RowKit Go.Shelf Go.Sort
open Go.Lib hiding intOf

theorem evl_no {l : List P10} {vs : List Vr} {e x : Int} (hm : mayE l = true) (hr : rgt vs = true) (h : rk l vs l.length (l.length - 1) = .no e x) : evl l vs = (v0, e) := by
  unfold evl
  rw [if_pos hm, if_pos hr, h]
  rfl
def cmV (a b : Int) (s t : List UInt8) : List Vr := [(⟨#[97]⟩, 1, a, []), (⟨#[98]⟩, 1, b, []), (⟨#[115]⟩, 3, 0, s), (⟨#[116]⟩, 3, 0, t)]
def iV (a : Int) : V9 := (1, a, [])
def tV (s : List UInt8) : V9 := (3, 0, s)
theorem lesI (a b : Int) : lesV (iV a) (iV b) = decide (a < b) := by
  unfold lesV iV
  rw [if_pos rfl]
  by_cases h : a = b
  · rw [if_pos h, h, decide_eq_false (Int.lt_irrefl b)]; kernel_rfl
  · rw [if_neg h]
theorem lesT (s t : List UInt8) : lesV (tV s) (tV t) = lt (S s) (S t) := by
  unfold lesV tV
  rw [if_pos rfl, if_pos rfl]
theorem S_inj {s t : List UInt8} (h : S s = S t) : s = t := by
  have := congrArg (fun b : ByteArray => b.data.toList) h
  simpa [S] using this
def Tri (x y : V9) : Prop := (lesV x y = true ∧ lesV y x = false ∧ decide (x = y) = false ∧ decide (x ≠ y) = true) ∨ (lesV x y = false ∧ lesV y x = true ∧ decide (x = y) = false ∧ decide (x ≠ y) = true) ∨ (lesV x y = false ∧ lesV y x = false ∧ decide (x = y) = true ∧ decide (x ≠ y) = false)
theorem tri_of {x y : V9} (h1 : lesV x y = true → lesV y x = false ∧ x ≠ y) (h2 : lesV y x = true → x ≠ y) (h3 : lesV x y = false → lesV y x = false → x = y) : Tri x y := by
  unfold Tri
  cases p : lesV x y with
  | true => obtain ⟨q, r⟩ := h1 p; exact .inl ⟨rfl, q, decide_eq_false r, decide_eq_true r⟩
  | false => cases q : lesV y x with
    | true => have r := h2 q; exact .inr (.inl ⟨rfl, rfl, decide_eq_false r, decide_eq_true r⟩)
    | false => have r := h3 p q; exact .inr (.inr ⟨rfl, rfl, decide_eq_true r, decide_eq_false (fun h => h r)⟩)
theorem triI (a b : Int) : Tri (iV a) (iV b) := by
  refine tri_of ?_ ?_ ?_ <;> simp only [lesI, decide_eq_true_eq, decide_eq_false_iff_not]
  · intro h; exact ⟨by omega, fun e => by have : a = b := congrArg (fun v : V9 => v.2.1) e; omega⟩
  · intro h e; have : a = b := congrArg (fun v : V9 => v.2.1) e; omega
  · intro h k; have : a = b := by omega
    rw [this]
theorem triT (s t : List UInt8) : Tri (tV s) (tV t) := by
  refine tri_of ?_ ?_ ?_ <;> simp only [lesT]
  · intro h; exact ⟨lt_asymm h, fun e => by have : s = t := congrArg (fun v : V9 => v.2.2) e; rw [this, lt_irrefl] at h; cases h⟩
  · intro h e; have : s = t := congrArg (fun v : V9 => v.2.2) e; rw [this, lt_irrefl] at h; cases h
  · intro h k; rw [S_inj (lt_total h k)]
theorem lt_app (s t : List UInt8) (h : t ≠ []) : lt (S s) (S (s ++ t)) = true := by
  rw [lt_iff]
  show s < s ++ t
  induction s with
  | nil => cases t with
    | nil => exact absurd rfl h
    | cons x t => exact List.Lex.nil
  | cons x s ih => exact List.Lex.cons ih
def cmT0 : List UInt8 := [40, 32, 97, 32, 60, 32, 98, 32, 41, 32, 61, 61, 32, 40, 32, 98, 32, 62, 32, 97, 32, 41]
def cmX0 : List P10 := [(2, -1, -1, 3, 0, [97]), (2, -1, -1, 3, 0, [98]), (13, 0, 1, 0, 0, []), (2, -1, -1, 3, 0, [98]), (2, -1, -1, 3, 0, [97]), (15, 3, 4, 0, 0, []), (11, 2, 5, 0, 0, [])]
theorem cm_prs0 : prs 80 cmT0 = some (cmX0, 0, 0) := by kernel_rfl
theorem cm_may0 : mayE cmX0 = true := by kernel_rfl
theorem cm_sm0 : ∀ p ∈ cmX0, p.2.2.2.2.2.length ≤ 4611686018427387904 := by unfold cmX0; intro p hp; simp only [List.mem_cons, List.not_mem_nil, or_false] at hp; rcases hp with rfl | rfl | rfl | rfl | rfl | rfl | rfl <;> exact Nat.le_of_ble_eq_true rfl
def cmT1 : List UInt8 := [40, 32, 97, 32, 60, 61, 32, 98, 32, 41, 32, 61, 61, 32, 110, 111, 116, 32, 40, 32, 97, 32, 62, 32, 98, 32, 41]
def cmX1 : List P10 := [(2, -1, -1, 3, 0, [97]), (2, -1, -1, 3, 0, [98]), (14, 0, 1, 0, 0, []), (2, -1, -1, 3, 0, [97]), (2, -1, -1, 3, 0, [98]), (15, 3, 4, 0, 0, []), (4, 5, -1, 0, 0, []), (11, 2, 6, 0, 0, [])]
theorem cm_prs1 : prs 80 cmT1 = some (cmX1, 0, 0) := by kernel_rfl
theorem cm_may1 : mayE cmX1 = true := by kernel_rfl
theorem cm_sm1 : ∀ p ∈ cmX1, p.2.2.2.2.2.length ≤ 4611686018427387904 := by unfold cmX1; intro p hp; simp only [List.mem_cons, List.not_mem_nil, or_false] at hp; rcases hp with rfl | rfl | rfl | rfl | rfl | rfl | rfl | rfl <;> exact Nat.le_of_ble_eq_true rfl
def cmT2 : List UInt8 := [40, 32, 97, 32, 61, 61, 32, 98, 32, 41, 32, 61, 61, 32, 40, 32, 97, 32, 60, 61, 32, 98, 32, 97, 110, 100, 32, 97, 32, 62, 61, 32, 98, 32, 41]
def cmX2 : List P10 := [(2, -1, -1, 3, 0, [97]), (2, -1, -1, 3, 0, [98]), (11, 0, 1, 0, 0, []), (2, -1, -1, 3, 0, [97]), (2, -1, -1, 3, 0, [98]), (14, 3, 4, 0, 0, []), (2, -1, -1, 3, 0, [97]), (2, -1, -1, 3, 0, [98]), (16, 6, 7, 0, 0, []), (17, 5, 8, 0, 0, []), (11, 2, 9, 0, 0, [])]
theorem cm_prs2 : prs 80 cmT2 = some (cmX2, 0, 0) := by kernel_rfl
theorem cm_may2 : mayE cmX2 = true := by kernel_rfl
theorem cm_sm2 : ∀ p ∈ cmX2, p.2.2.2.2.2.length ≤ 4611686018427387904 := by unfold cmX2; intro p hp; simp only [List.mem_cons, List.not_mem_nil, or_false] at hp; rcases hp with rfl | rfl | rfl | rfl | rfl | rfl | rfl | rfl | rfl | rfl | rfl <;> exact Nat.le_of_ble_eq_true rfl
def cmT3 : List UInt8 := [40, 32, 97, 32, 33, 61, 32, 98, 32, 41, 32, 61, 61, 32, 40, 32, 97, 32, 60, 32, 98, 32, 111, 114, 32, 97, 32, 62, 32, 98, 32, 41]
def cmX3 : List P10 := [(2, -1, -1, 3, 0, [97]), (2, -1, -1, 3, 0, [98]), (12, 0, 1, 0, 0, []), (2, -1, -1, 3, 0, [97]), (2, -1, -1, 3, 0, [98]), (13, 3, 4, 0, 0, []), (2, -1, -1, 3, 0, [97]), (2, -1, -1, 3, 0, [98]), (15, 6, 7, 0, 0, []), (18, 5, 8, 0, 0, []), (11, 2, 9, 0, 0, [])]
theorem cm_prs3 : prs 80 cmT3 = some (cmX3, 0, 0) := by kernel_rfl
theorem cm_may3 : mayE cmX3 = true := by kernel_rfl
theorem cm_sm3 : ∀ p ∈ cmX3, p.2.2.2.2.2.length ≤ 4611686018427387904 := by unfold cmX3; intro p hp; simp only [List.mem_cons, List.not_mem_nil, or_false] at hp; rcases hp with rfl | rfl | rfl | rfl | rfl | rfl | rfl | rfl | rfl | rfl | rfl <;> exact Nat.le_of_ble_eq_true rfl
def cmT4 : List UInt8 := [40, 32, 115, 32, 60, 32, 116, 32, 41, 32, 61, 61, 32, 40, 32, 116, 32, 62, 32, 115, 32, 41]
def cmX4 : List P10 := [(2, -1, -1, 3, 0, [115]), (2, -1, -1, 3, 0, [116]), (13, 0, 1, 0, 0, []), (2, -1, -1, 3, 0, [116]), (2, -1, -1, 3, 0, [115]), (15, 3, 4, 0, 0, []), (11, 2, 5, 0, 0, [])]
theorem cm_prs4 : prs 80 cmT4 = some (cmX4, 0, 0) := by kernel_rfl
theorem cm_may4 : mayE cmX4 = true := by kernel_rfl
theorem cm_sm4 : ∀ p ∈ cmX4, p.2.2.2.2.2.length ≤ 4611686018427387904 := by unfold cmX4; intro p hp; simp only [List.mem_cons, List.not_mem_nil, or_false] at hp; rcases hp with rfl | rfl | rfl | rfl | rfl | rfl | rfl <;> exact Nat.le_of_ble_eq_true rfl
def cmT5 : List UInt8 := [40, 32, 115, 32, 60, 61, 32, 116, 32, 41, 32, 61, 61, 32, 110, 111, 116, 32, 40, 32, 115, 32, 62, 32, 116, 32, 41]
def cmX5 : List P10 := [(2, -1, -1, 3, 0, [115]), (2, -1, -1, 3, 0, [116]), (14, 0, 1, 0, 0, []), (2, -1, -1, 3, 0, [115]), (2, -1, -1, 3, 0, [116]), (15, 3, 4, 0, 0, []), (4, 5, -1, 0, 0, []), (11, 2, 6, 0, 0, [])]
theorem cm_prs5 : prs 80 cmT5 = some (cmX5, 0, 0) := by kernel_rfl
theorem cm_may5 : mayE cmX5 = true := by kernel_rfl
theorem cm_sm5 : ∀ p ∈ cmX5, p.2.2.2.2.2.length ≤ 4611686018427387904 := by unfold cmX5; intro p hp; simp only [List.mem_cons, List.not_mem_nil, or_false] at hp; rcases hp with rfl | rfl | rfl | rfl | rfl | rfl | rfl | rfl <;> exact Nat.le_of_ble_eq_true rfl
def cmT6 : List UInt8 := [40, 32, 115, 32, 61, 61, 32, 116, 32, 41, 32, 61, 61, 32, 40, 32, 115, 32, 60, 61, 32, 116, 32, 97, 110, 100, 32, 115, 32, 62, 61, 32, 116, 32, 41]
def cmX6 : List P10 := [(2, -1, -1, 3, 0, [115]), (2, -1, -1, 3, 0, [116]), (11, 0, 1, 0, 0, []), (2, -1, -1, 3, 0, [115]), (2, -1, -1, 3, 0, [116]), (14, 3, 4, 0, 0, []), (2, -1, -1, 3, 0, [115]), (2, -1, -1, 3, 0, [116]), (16, 6, 7, 0, 0, []), (17, 5, 8, 0, 0, []), (11, 2, 9, 0, 0, [])]
theorem cm_prs6 : prs 80 cmT6 = some (cmX6, 0, 0) := by kernel_rfl
theorem cm_may6 : mayE cmX6 = true := by kernel_rfl
theorem cm_sm6 : ∀ p ∈ cmX6, p.2.2.2.2.2.length ≤ 4611686018427387904 := by unfold cmX6; intro p hp; simp only [List.mem_cons, List.not_mem_nil, or_false] at hp; rcases hp with rfl | rfl | rfl | rfl | rfl | rfl | rfl | rfl | rfl | rfl | rfl <;> exact Nat.le_of_ble_eq_true rfl
def cmT7 : List UInt8 := [40, 32, 115, 32, 33, 61, 32, 116, 32, 41, 32, 61, 61, 32, 110, 111, 116, 32, 40, 32, 115, 32, 61, 61, 32, 116, 32, 41]
def cmX7 : List P10 := [(2, -1, -1, 3, 0, [115]), (2, -1, -1, 3, 0, [116]), (12, 0, 1, 0, 0, []), (2, -1, -1, 3, 0, [115]), (2, -1, -1, 3, 0, [116]), (11, 3, 4, 0, 0, []), (4, 5, -1, 0, 0, []), (11, 2, 6, 0, 0, [])]
theorem cm_prs7 : prs 80 cmT7 = some (cmX7, 0, 0) := by kernel_rfl
theorem cm_may7 : mayE cmX7 = true := by kernel_rfl
theorem cm_sm7 : ∀ p ∈ cmX7, p.2.2.2.2.2.length ≤ 4611686018427387904 := by unfold cmX7; intro p hp; simp only [List.mem_cons, List.not_mem_nil, or_false] at hp; rcases hp with rfl | rfl | rfl | rfl | rfl | rfl | rfl | rfl <;> exact Nat.le_of_ble_eq_true rfl
def cmT8 : List UInt8 := [115, 32, 43, 32, 116, 32, 62, 32, 115, 32, 111, 114, 32, 108, 101, 110, 32, 40, 32, 116, 32, 41, 32, 61, 61, 32, 48]
def cmX8 : List P10 := [(2, -1, -1, 3, 0, [115]), (2, -1, -1, 3, 0, [116]), (9, 0, 1, 0, 0, []), (2, -1, -1, 3, 0, [115]), (15, 2, 3, 0, 0, []), (2, -1, -1, 3, 0, [116]), (5, 5, -1, 0, 0, []), (1, -1, -1, 1, 0, []), (11, 6, 7, 0, 0, []), (18, 4, 8, 0, 0, [])]
theorem cm_prs8 : prs 80 cmT8 = some (cmX8, 0, 0) := by kernel_rfl
theorem cm_may8 : mayE cmX8 = true := by kernel_rfl
theorem cm_sm8 : ∀ p ∈ cmX8, p.2.2.2.2.2.length ≤ 4611686018427387904 := by unfold cmX8; intro p hp; simp only [List.mem_cons, List.not_mem_nil, or_false] at hp; rcases hp with rfl | rfl | rfl | rfl | rfl | rfl | rfl | rfl | rfl | rfl <;> exact Nat.le_of_ble_eq_true rfl
def cmT9 : List UInt8 := [40, 32, 115, 32, 43, 32, 116, 32, 61, 61, 32, 116, 32, 43, 32, 115, 32, 41, 32, 111, 114, 32, 115, 32, 33, 61, 32, 116]
def cmX9 : List P10 := [(2, -1, -1, 3, 0, [115]), (2, -1, -1, 3, 0, [116]), (9, 0, 1, 0, 0, []), (2, -1, -1, 3, 0, [116]), (2, -1, -1, 3, 0, [115]), (9, 3, 4, 0, 0, []), (11, 2, 5, 0, 0, []), (2, -1, -1, 3, 0, [115]), (2, -1, -1, 3, 0, [116]), (12, 7, 8, 0, 0, []), (18, 6, 9, 0, 0, [])]
theorem cm_prs9 : prs 80 cmT9 = some (cmX9, 0, 0) := by kernel_rfl
theorem cm_may9 : mayE cmX9 = true := by kernel_rfl
theorem cm_sm9 : ∀ p ∈ cmX9, p.2.2.2.2.2.length ≤ 4611686018427387904 := by unfold cmX9; intro p hp; simp only [List.mem_cons, List.not_mem_nil, or_false] at hp; rcases hp with rfl | rfl | rfl | rfl | rfl | rfl | rfl | rfl | rfl | rfl | rfl <;> exact Nat.le_of_ble_eq_true rfl
theorem cm_rk0 (a b : Int) (s t : List UInt8) : rk cmX0 (cmV a b s t) cmX0.length (cmX0.length - 1) = .ok (2, 1, []) := by
  have h : rk cmX0 (cmV a b s t) cmX0.length (cmX0.length - 1) = .ok (tr (decide (tr (lesV (iV a) (iV b)) = tr (lesV (iV a) (iV b))))) := by kernel_rfl
  rw [h]
  rcases triI a b with ⟨h1, h2, h3, h4⟩ | ⟨h1, h2, h3, h4⟩ | ⟨h1, h2, h3, h4⟩
  · rw [h1]
    rfl
  · rw [h1]
    rfl
  · rw [h1]
    rfl
theorem cm_rk1 (a b : Int) (s t : List UInt8) : rk cmX1 (cmV a b s t) cmX1.length (cmX1.length - 1) = .ok (2, 1, []) := by
  have h : rk cmX1 (cmV a b s t) cmX1.length (cmX1.length - 1) = .ok (tr (decide (tr (!lesV (iV b) (iV a)) = tr (decide ((tr (lesV (iV b) (iV a))).2.1 = 0))))) := by kernel_rfl
  rw [h]
  rcases triI a b with ⟨h1, h2, h3, h4⟩ | ⟨h1, h2, h3, h4⟩ | ⟨h1, h2, h3, h4⟩
  · rw [h2]
    rfl
  · rw [h2]
    rfl
  · rw [h2]
    rfl
theorem cm_rk2 (a b : Int) (s t : List UInt8) : rk cmX2 (cmV a b s t) cmX2.length (cmX2.length - 1) = .ok (2, 1, []) := by
  have h : rk cmX2 (cmV a b s t) cmX2.length (cmX2.length - 1) = (if dcd 17 (tr (!lesV (iV b) (iV a))) = true then Ot.ok (tr (!lesV (iV b) (iV a))) else .ok (tr (!lesV (iV a) (iV b)))).bind (fun y => if kof 11 2 y.1 = 0 then .no 9 0 else opV 11 (tr (decide ((iV a) = (iV b)))) y) := by kernel_rfl
  rw [h]
  rcases triI a b with ⟨h1, h2, h3, h4⟩ | ⟨h1, h2, h3, h4⟩ | ⟨h1, h2, h3, h4⟩
  · rw [h1, h2, h3]
    rfl
  · rw [h1, h2, h3]
    rfl
  · rw [h1, h2, h3]
    rfl
theorem cm_rk3 (a b : Int) (s t : List UInt8) : rk cmX3 (cmV a b s t) cmX3.length (cmX3.length - 1) = .ok (2, 1, []) := by
  have h : rk cmX3 (cmV a b s t) cmX3.length (cmX3.length - 1) = (if dcd 18 (tr (lesV (iV a) (iV b))) = true then Ot.ok (tr (lesV (iV a) (iV b))) else .ok (tr (lesV (iV b) (iV a)))).bind (fun y => if kof 11 2 y.1 = 0 then .no 9 0 else opV 11 (tr (decide ((iV a) ≠ (iV b)))) y) := by kernel_rfl
  rw [h]
  rcases triI a b with ⟨h1, h2, h3, h4⟩ | ⟨h1, h2, h3, h4⟩ | ⟨h1, h2, h3, h4⟩
  · rw [h1, h2, h4]
    rfl
  · rw [h1, h2, h4]
    rfl
  · rw [h1, h2, h4]
    rfl
theorem cm_rk4 (a b : Int) (s t : List UInt8) : rk cmX4 (cmV a b s t) cmX4.length (cmX4.length - 1) = .ok (2, 1, []) := by
  have h : rk cmX4 (cmV a b s t) cmX4.length (cmX4.length - 1) = .ok (tr (decide (tr (lesV (tV s) (tV t)) = tr (lesV (tV s) (tV t))))) := by kernel_rfl
  rw [h]
  rcases triT s t with ⟨h1, h2, h3, h4⟩ | ⟨h1, h2, h3, h4⟩ | ⟨h1, h2, h3, h4⟩
  · rw [h1]
    rfl
  · rw [h1]
    rfl
  · rw [h1]
    rfl
theorem cm_rk5 (a b : Int) (s t : List UInt8) : rk cmX5 (cmV a b s t) cmX5.length (cmX5.length - 1) = .ok (2, 1, []) := by
  have h : rk cmX5 (cmV a b s t) cmX5.length (cmX5.length - 1) = .ok (tr (decide (tr (!lesV (tV t) (tV s)) = tr (decide ((tr (lesV (tV t) (tV s))).2.1 = 0))))) := by kernel_rfl
  rw [h]
  rcases triT s t with ⟨h1, h2, h3, h4⟩ | ⟨h1, h2, h3, h4⟩ | ⟨h1, h2, h3, h4⟩
  · rw [h2]
    rfl
  · rw [h2]
    rfl
  · rw [h2]
    rfl
theorem cm_rk6 (a b : Int) (s t : List UInt8) : rk cmX6 (cmV a b s t) cmX6.length (cmX6.length - 1) = .ok (2, 1, []) := by
  have h : rk cmX6 (cmV a b s t) cmX6.length (cmX6.length - 1) = (if dcd 17 (tr (!lesV (tV t) (tV s))) = true then Ot.ok (tr (!lesV (tV t) (tV s))) else .ok (tr (!lesV (tV s) (tV t)))).bind (fun y => if kof 11 2 y.1 = 0 then .no 9 0 else opV 11 (tr (decide ((tV s) = (tV t)))) y) := by kernel_rfl
  rw [h]
  rcases triT s t with ⟨h1, h2, h3, h4⟩ | ⟨h1, h2, h3, h4⟩ | ⟨h1, h2, h3, h4⟩
  · rw [h1, h2, h3]
    rfl
  · rw [h1, h2, h3]
    rfl
  · rw [h1, h2, h3]
    rfl
theorem cm_rk7 (a b : Int) (s t : List UInt8) : rk cmX7 (cmV a b s t) cmX7.length (cmX7.length - 1) = .ok (2, 1, []) := by
  have h : rk cmX7 (cmV a b s t) cmX7.length (cmX7.length - 1) = .ok (tr (decide (tr (decide ((tV s) ≠ (tV t))) = tr (decide ((tr (decide ((tV s) = (tV t)))).2.1 = 0))))) := by kernel_rfl
  rw [h]
  rcases triT s t with ⟨h1, h2, h3, h4⟩ | ⟨h1, h2, h3, h4⟩ | ⟨h1, h2, h3, h4⟩
  · rw [h3, h4]
    rfl
  · rw [h3, h4]
    rfl
  · rw [h3, h4]
    rfl
theorem sum_long {s t : List UInt8} (h : 1024 < s.length + t.length) : sumV (tV s) (tV t) = .no 13 0 := by unfold sumV tV; rw [if_neg (show ¬ (3 : Int) = 1 by decide), if_pos h]
theorem sum_short {s t : List UInt8} (h : ¬ 1024 < s.length + t.length) : sumV (tV s) (tV t) = .ok (tV (s ++ t)) := by unfold sumV tV; rw [if_neg (show ¬ (3 : Int) = 1 by decide), if_neg h]
theorem cm_h8 (a b : Int) (s t : List UInt8) : rk cmX8 (cmV a b s t) cmX8.length (cmX8.length - 1) = ((sumV (tV s) (tV t)).bind fun x => if dcd 15 x = true then .ok x else if kof 15 x.1 3 = 0 then .no 9 0 else opV 15 x (tV s)).bind fun x => if dcd 18 x = true then .ok x else if kof 18 x.1 2 = 0 then .no 9 0 else opV 18 x (tr (decide (nm (t.length : Int) = ((1, 0, []) : V9)))) := by kernel_rfl
theorem cm_h9 (a b : Int) (s t : List UInt8) : rk cmX9 (cmV a b s t) cmX9.length (cmX9.length - 1) = ((sumV (tV s) (tV t)).bind fun x => if dcd 11 x = true then .ok x else (sumV (tV t) (tV s)).bind fun y => if kof 11 x.1 y.1 = 0 then .no 9 0 else opV 11 x y).bind fun x => if dcd 18 x = true then .ok x else if kof 18 x.1 2 = 0 then .no 9 0 else opV 18 x (tr (decide ((tV s) ≠ (tV t)))) := by kernel_rfl
theorem cm_rk8 (a b : Int) (s t : List UInt8) : rk cmX8 (cmV a b s t) cmX8.length (cmX8.length - 1) = .ok (2, 1, []) ∨ rk cmX8 (cmV a b s t) cmX8.length (cmX8.length - 1) = .no 13 0 := by
  rw [cm_h8]
  by_cases hl : 1024 < s.length + t.length
  · rw [sum_long hl]; exact .inr rfl
  · rw [sum_short hl]
    have h : ((Ot.ok (tV (s ++ t))).bind fun x => if dcd 15 x = true then .ok x else if kof 15 x.1 3 = 0 then .no 9 0 else opV 15 x (tV s)) = .ok (tr (lesV (tV s) (tV (s ++ t)))) := by kernel_rfl
    rw [h, lesT]
    refine .inl ?_
    by_cases ht : t = []
    · subst ht
      rw [List.append_nil, lt_irrefl]
      kernel_rfl
    · rw [lt_app s t ht]
      kernel_rfl
theorem cm_rk9 (a b : Int) (s t : List UInt8) : rk cmX9 (cmV a b s t) cmX9.length (cmX9.length - 1) = .ok (2, 1, []) ∨ rk cmX9 (cmV a b s t) cmX9.length (cmX9.length - 1) = .no 13 0 := by
  rw [cm_h9]
  by_cases hl : 1024 < s.length + t.length
  · rw [sum_long hl]; exact .inr rfl
  · rw [sum_short hl, sum_short (by omega)]
    have h : ((Ot.ok (tV (s ++ t))).bind fun x => if dcd 11 x = true then .ok x else (Ot.ok (tV (t ++ s))).bind fun y => if kof 11 x.1 y.1 = 0 then .no 9 0 else opV 11 x y) = .ok (tr (decide (tV (s ++ t) = tV (t ++ s)))) := by kernel_rfl
    rw [h]
    refine .inl ?_
    by_cases hst : s = t
    · subst hst
      rw [decide_eq_true (show tV (s ++ s) = tV (s ++ s) from rfl)]
      kernel_rfl
    · rw [decide_eq_true (show tV s ≠ tV t from fun e => hst (congrArg (fun v : V9 => v.2.2) e))]
      cases decide (tV (s ++ t) = tV (t ++ s)) <;> kernel_rfl
theorem cmV_len (a b : Int) (s t : List UInt8) : (cmV a b s t).length ≤ 4611686018427387904 := Nat.le_of_ble_eq_true rfl
theorem cm_rgt (a b : Int) {s t : List UInt8} (hs : s.length ≤ 1024) (ht : t.length ≤ 1024) : rgt (cmV a b s t) = true := by
  have h1 : mayV (tV s) = true := by unfold mayV tV; rw [if_pos rfl]; exact decide_eq_true ⟨rfl, hs⟩
  have h2 : mayV (tV t) = true := by unfold mayV tV; rw [if_pos rfl]; exact decide_eq_true ⟨rfl, ht⟩
  have h : rgt (cmV a b s t) = (mayV (tV s) && (mayV (tV t))) := by
    have h3 : rgt (cmV a b s t) = (true && (true && (true && (((true && mayV (tV s)) && true) && (((true && mayV (tV t)) && true) && true))))) := by kernel_rfl
    rw [h3]; cases mayV (tV s) <;> cases mayV (tV t) <;> rfl
  rw [h, h1, h2]; rfl
theorem cmV_sm {a b : Int} {s t : List UInt8} (ha : -9223372036854775808 ≤ a ∧ a ≤ 9223372036854775807) (hb : -9223372036854775808 ≤ b ∧ b ≤ 9223372036854775807) (hs : s.length ≤ 1024) (ht : t.length ≤ 1024) : Sm9 (cmV a b s t) := fun p hp => by
  have h3 : p = (⟨#[97]⟩, 1, a, []) ∨ p = (⟨#[98]⟩, 1, b, []) ∨ p = (⟨#[115]⟩, 3, 0, s) ∨ p = (⟨#[116]⟩, 3, 0, t) := by simpa [cmV] using hp
  rcases h3 with rfl | rfl | rfl | rfl
  · exact ⟨Nat.le_of_ble_eq_true rfl, ⟨by show (-9223372036854775808 : Int) ≤ 1; omega, by show (1 : Int) ≤ 9223372036854775807; omega⟩, ha, Nat.zero_le _⟩
  · exact ⟨Nat.le_of_ble_eq_true rfl, ⟨by show (-9223372036854775808 : Int) ≤ 1; omega, by show (1 : Int) ≤ 9223372036854775807; omega⟩, hb, Nat.zero_le _⟩
  · exact ⟨Nat.le_of_ble_eq_true rfl, ⟨by show (-9223372036854775808 : Int) ≤ 3; omega, by show (3 : Int) ≤ 9223372036854775807; omega⟩, ⟨by show (-9223372036854775808 : Int) ≤ 0; omega, by show (0 : Int) ≤ 9223372036854775807; omega⟩, by show s.length ≤ _; omega⟩
  · exact ⟨Nat.le_of_ble_eq_true rfl, ⟨by show (-9223372036854775808 : Int) ≤ 3; omega, by show (3 : Int) ≤ 9223372036854775807; omega⟩, ⟨by show (-9223372036854775808 : Int) ≤ 0; omega, by show (0 : Int) ≤ 9223372036854775807; omega⟩, by show t.length ≤ _; omega⟩
def cmT : List (List UInt8) := [cmT0, cmT1, cmT2, cmT3, cmT4, cmT5, cmT6, cmT7, cmT8, cmT9]
/-- the texts, one by one -/
theorem cm_all (a b : Int) {s t : List UInt8} (hs : s.length ≤ 1024) (ht : t.length ≤ 1024) : ∀ i (h : i < 10), ∃ l, prs 80 (cmT[i]'h) = some (l, 0, 0) ∧ (evl l (cmV a b s t) = ((2, 1, []), 0) ∨ (8 ≤ i ∧ evl l (cmV a b s t) = (v0, 13))) ∧ (∀ p ∈ l, p.2.2.2.2.2.length ≤ 4611686018427387904) ∧ l.length ≤ 4611686018427387904 := by
  have hr := cm_rgt a b hs ht
  intro i h
  have hc : i = 0 ∨ i = 1 ∨ i = 2 ∨ i = 3 ∨ i = 4 ∨ i = 5 ∨ i = 6 ∨ i = 7 ∨ i = 8 ∨ i = 9 := by omega
  rcases hc with rfl | rfl | rfl | rfl | rfl | rfl | rfl | rfl | rfl | rfl
  · exact ⟨cmX0, cm_prs0, .inl (evl_of cm_may0 hr (cm_rk0 a b s t)), cm_sm0, by decide⟩
  · exact ⟨cmX1, cm_prs1, .inl (evl_of cm_may1 hr (cm_rk1 a b s t)), cm_sm1, by decide⟩
  · exact ⟨cmX2, cm_prs2, .inl (evl_of cm_may2 hr (cm_rk2 a b s t)), cm_sm2, by decide⟩
  · exact ⟨cmX3, cm_prs3, .inl (evl_of cm_may3 hr (cm_rk3 a b s t)), cm_sm3, by decide⟩
  · exact ⟨cmX4, cm_prs4, .inl (evl_of cm_may4 hr (cm_rk4 a b s t)), cm_sm4, by decide⟩
  · exact ⟨cmX5, cm_prs5, .inl (evl_of cm_may5 hr (cm_rk5 a b s t)), cm_sm5, by decide⟩
  · exact ⟨cmX6, cm_prs6, .inl (evl_of cm_may6 hr (cm_rk6 a b s t)), cm_sm6, by decide⟩
  · exact ⟨cmX7, cm_prs7, .inl (evl_of cm_may7 hr (cm_rk7 a b s t)), cm_sm7, by decide⟩
  · exact ⟨cmX8, cm_prs8, (cm_rk8 a b s t).imp (fun h => evl_of cm_may8 hr h) (fun h => ⟨by omega, evl_no cm_may8 hr h⟩), cm_sm8, by decide⟩
  · exact ⟨cmX9, cm_prs9, (cm_rk9 a b s t).imp (fun h => evl_of cm_may9 hr h) (fun h => ⟨by omega, evl_no cm_may9 hr h⟩), cm_sm9, by decide⟩
end Go.Proofs.YtpdengbdnijcfaaGreatDoor.x10

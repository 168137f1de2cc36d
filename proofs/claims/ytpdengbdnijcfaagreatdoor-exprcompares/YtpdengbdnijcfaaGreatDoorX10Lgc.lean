/-
  ExprLogic's texts: their parts, what these come to.
-/
import Derived.Test.YtpdengbdnijcfaaGreatDoorGExprV
namespace Go.Proofs.YtpdengbdnijcfaaGreatDoor.x10
open Go.RowKit Go.Shelf Go.Sort
open Go.Lib hiding intOf

/-- what one text comes to -/
theorem evl_of {l : List P10} {vs : List Vr} {v : V9} (hm : mayE l = true) (hr : rgt vs = true) (h : rk l vs l.length (l.length - 1) = .ok v) : evl l vs = (v, 0) := by
  unfold evl
  rw [if_pos hm, if_pos hr, h]
  rfl
theorem wrap_id {n : Int} (h : -9223372036854775808 ≤ n ∧ n ≤ 9223372036854775807) : IntKind.i64.wrap n = n := by rw [IntKind.wrap_i64]; omega
def lgV (x y n : Int) : List Vr := [(⟨#[97]⟩, 2, x, []), (⟨#[98]⟩, 2, y, []), (⟨#[110]⟩, 1, n, [])]
def lgT0 : List UInt8 := [110, 111, 116, 32, 40, 32, 97, 32, 97, 110, 100, 32, 98, 32, 41, 32, 61, 61, 32, 40, 32, 110, 111, 116, 32, 97, 32, 111, 114, 32, 110, 111, 116, 32, 98, 32, 41]
def lgX0 : List P10 := [(2, -1, -1, 3, 0, [97]), (2, -1, -1, 3, 0, [98]), (17, 0, 1, 0, 0, []), (4, 2, -1, 0, 0, []), (2, -1, -1, 3, 0, [97]), (4, 4, -1, 0, 0, []), (2, -1, -1, 3, 0, [98]), (4, 6, -1, 0, 0, []), (18, 5, 7, 0, 0, []), (11, 3, 8, 0, 0, [])]
theorem lg_prs0 : prs 80 lgT0 = some (lgX0, 0, 0) := by kernel_rfl
theorem lg_may0 : mayE lgX0 = true := by kernel_rfl
theorem lg_sm0 : ∀ p ∈ lgX0, p.2.2.2.2.2.length ≤ 4611686018427387904 := by unfold lgX0; intro p hp; simp only [List.mem_cons, List.not_mem_nil, or_false] at hp; rcases hp with rfl | rfl | rfl | rfl | rfl | rfl | rfl | rfl | rfl | rfl <;> exact Nat.le_of_ble_eq_true rfl
def lgT1 : List UInt8 := [40, 32, 97, 32, 97, 110, 100, 32, 110, 111, 116, 32, 97, 32, 41, 32, 61, 61, 32, 102, 97, 108, 115, 101]
def lgX1 : List P10 := [(2, -1, -1, 3, 0, [97]), (2, -1, -1, 3, 0, [97]), (4, 1, -1, 0, 0, []), (17, 0, 2, 0, 0, []), (1, -1, -1, 2, 0, []), (11, 3, 4, 0, 0, [])]
theorem lg_prs1 : prs 80 lgT1 = some (lgX1, 0, 0) := by kernel_rfl
theorem lg_may1 : mayE lgX1 = true := by kernel_rfl
theorem lg_sm1 : ∀ p ∈ lgX1, p.2.2.2.2.2.length ≤ 4611686018427387904 := by unfold lgX1; intro p hp; simp only [List.mem_cons, List.not_mem_nil, or_false] at hp; rcases hp with rfl | rfl | rfl | rfl | rfl | rfl <;> exact Nat.le_of_ble_eq_true rfl
def lgT2 : List UInt8 := [97, 32, 111, 114, 32, 40, 32, 110, 111, 116, 32, 97, 32, 41]
def lgX2 : List P10 := [(2, -1, -1, 3, 0, [97]), (2, -1, -1, 3, 0, [97]), (4, 1, -1, 0, 0, []), (18, 0, 2, 0, 0, [])]
theorem lg_prs2 : prs 80 lgT2 = some (lgX2, 0, 0) := by kernel_rfl
theorem lg_may2 : mayE lgX2 = true := by kernel_rfl
theorem lg_sm2 : ∀ p ∈ lgX2, p.2.2.2.2.2.length ≤ 4611686018427387904 := by unfold lgX2; intro p hp; simp only [List.mem_cons, List.not_mem_nil, or_false] at hp; rcases hp with rfl | rfl | rfl | rfl <;> exact Nat.le_of_ble_eq_true rfl
def lgT3 : List UInt8 := [40, 32, 110, 32, 45, 32, 110, 32, 41, 32, 61, 61, 32, 48]
def lgX3 : List P10 := [(2, -1, -1, 3, 0, [110]), (2, -1, -1, 3, 0, [110]), (10, 0, 1, 0, 0, []), (1, -1, -1, 1, 0, []), (11, 2, 3, 0, 0, [])]
theorem lg_prs3 : prs 80 lgT3 = some (lgX3, 0, 0) := by kernel_rfl
theorem lg_may3 : mayE lgX3 = true := by kernel_rfl
theorem lg_sm3 : ∀ p ∈ lgX3, p.2.2.2.2.2.length ≤ 4611686018427387904 := by unfold lgX3; intro p hp; simp only [List.mem_cons, List.not_mem_nil, or_false] at hp; rcases hp with rfl | rfl | rfl | rfl | rfl <;> exact Nat.le_of_ble_eq_true rfl
def lgT4 : List UInt8 := [110, 32, 60, 32, 110, 32, 43, 32, 48, 32, 61, 61, 32, 102, 97, 108, 115, 101]
def lgX4 : List P10 := [(2, -1, -1, 3, 0, [110]), (2, -1, -1, 3, 0, [110]), (1, -1, -1, 1, 0, []), (9, 1, 2, 0, 0, []), (13, 0, 3, 0, 0, []), (1, -1, -1, 2, 0, []), (11, 4, 5, 0, 0, [])]
theorem lg_prs4 : prs 80 lgT4 = some (lgX4, 0, 0) := by kernel_rfl
theorem lg_may4 : mayE lgX4 = true := by kernel_rfl
theorem lg_sm4 : ∀ p ∈ lgX4, p.2.2.2.2.2.length ≤ 4611686018427387904 := by unfold lgX4; intro p hp; simp only [List.mem_cons, List.not_mem_nil, or_false] at hp; rcases hp with rfl | rfl | rfl | rfl | rfl | rfl | rfl <;> exact Nat.le_of_ble_eq_true rfl
def lgT5 : List UInt8 := [45, 32, 40, 32, 45, 32, 110, 32, 41, 32, 61, 61, 32, 110]
def lgX5 : List P10 := [(2, -1, -1, 3, 0, [110]), (3, 0, -1, 0, 0, []), (3, 1, -1, 0, 0, []), (2, -1, -1, 3, 0, [110]), (11, 2, 3, 0, 0, [])]
theorem lg_prs5 : prs 80 lgT5 = some (lgX5, 0, 0) := by kernel_rfl
theorem lg_may5 : mayE lgX5 = true := by kernel_rfl
theorem lg_sm5 : ∀ p ∈ lgX5, p.2.2.2.2.2.length ≤ 4611686018427387904 := by unfold lgX5; intro p hp; simp only [List.mem_cons, List.not_mem_nil, or_false] at hp; rcases hp with rfl | rfl | rfl | rfl | rfl <;> exact Nat.le_of_ble_eq_true rfl
def lgT6 : List UInt8 := [97, 32, 97, 110, 100, 32, 98, 32, 61, 61, 32, 40, 32, 98, 32, 97, 110, 100, 32, 97, 32, 41, 32, 111, 114, 32, 116, 114, 117, 101]
def lgX6 : List P10 := [(2, -1, -1, 3, 0, [97]), (2, -1, -1, 3, 0, [98]), (2, -1, -1, 3, 0, [98]), (2, -1, -1, 3, 0, [97]), (17, 2, 3, 0, 0, []), (11, 1, 4, 0, 0, []), (17, 0, 5, 0, 0, []), (1, -1, -1, 2, 1, []), (18, 6, 7, 0, 0, [])]
theorem lg_prs6 : prs 80 lgT6 = some (lgX6, 0, 0) := by kernel_rfl
theorem lg_may6 : mayE lgX6 = true := by kernel_rfl
theorem lg_sm6 : ∀ p ∈ lgX6, p.2.2.2.2.2.length ≤ 4611686018427387904 := by unfold lgX6; intro p hp; simp only [List.mem_cons, List.not_mem_nil, or_false] at hp; rcases hp with rfl | rfl | rfl | rfl | rfl | rfl | rfl | rfl | rfl <;> exact Nat.le_of_ble_eq_true rfl
theorem lg_rgt00 (n : Int) : rgt (lgV 0 0 n) = true := by kernel_rfl
theorem lg_rk000 (n : Int) : rk lgX0 (lgV 0 0 n) lgX0.length (lgX0.length - 1) = .ok (2, 1, []) := by kernel_rfl
theorem lg_rk100 (n : Int) : rk lgX1 (lgV 0 0 n) lgX1.length (lgX1.length - 1) = .ok (2, 1, []) := by kernel_rfl
theorem lg_rk200 (n : Int) : rk lgX2 (lgV 0 0 n) lgX2.length (lgX2.length - 1) = .ok (2, 1, []) := by kernel_rfl
theorem lg_rk600 (n : Int) : rk lgX6 (lgV 0 0 n) lgX6.length (lgX6.length - 1) = .ok (2, 1, []) := by kernel_rfl
theorem lg_rgt01 (n : Int) : rgt (lgV 0 1 n) = true := by kernel_rfl
theorem lg_rk001 (n : Int) : rk lgX0 (lgV 0 1 n) lgX0.length (lgX0.length - 1) = .ok (2, 1, []) := by kernel_rfl
theorem lg_rk101 (n : Int) : rk lgX1 (lgV 0 1 n) lgX1.length (lgX1.length - 1) = .ok (2, 1, []) := by kernel_rfl
theorem lg_rk201 (n : Int) : rk lgX2 (lgV 0 1 n) lgX2.length (lgX2.length - 1) = .ok (2, 1, []) := by kernel_rfl
theorem lg_rk601 (n : Int) : rk lgX6 (lgV 0 1 n) lgX6.length (lgX6.length - 1) = .ok (2, 1, []) := by kernel_rfl
theorem lg_rgt10 (n : Int) : rgt (lgV 1 0 n) = true := by kernel_rfl
theorem lg_rk010 (n : Int) : rk lgX0 (lgV 1 0 n) lgX0.length (lgX0.length - 1) = .ok (2, 1, []) := by kernel_rfl
theorem lg_rk110 (n : Int) : rk lgX1 (lgV 1 0 n) lgX1.length (lgX1.length - 1) = .ok (2, 1, []) := by kernel_rfl
theorem lg_rk210 (n : Int) : rk lgX2 (lgV 1 0 n) lgX2.length (lgX2.length - 1) = .ok (2, 1, []) := by kernel_rfl
theorem lg_rk610 (n : Int) : rk lgX6 (lgV 1 0 n) lgX6.length (lgX6.length - 1) = .ok (2, 1, []) := by kernel_rfl
theorem lg_rgt11 (n : Int) : rgt (lgV 1 1 n) = true := by kernel_rfl
theorem lg_rk011 (n : Int) : rk lgX0 (lgV 1 1 n) lgX0.length (lgX0.length - 1) = .ok (2, 1, []) := by kernel_rfl
theorem lg_rk111 (n : Int) : rk lgX1 (lgV 1 1 n) lgX1.length (lgX1.length - 1) = .ok (2, 1, []) := by kernel_rfl
theorem lg_rk211 (n : Int) : rk lgX2 (lgV 1 1 n) lgX2.length (lgX2.length - 1) = .ok (2, 1, []) := by kernel_rfl
theorem lg_rk611 (n : Int) : rk lgX6 (lgV 1 1 n) lgX6.length (lgX6.length - 1) = .ok (2, 1, []) := by kernel_rfl
theorem lg_rk3 (x y n : Int) : rk lgX3 (lgV x y n) lgX3.length (lgX3.length - 1) = .ok (2, 1, []) := by
  have h : rk lgX3 (lgV x y n) lgX3.length (lgX3.length - 1) = .ok (tr (decide (nm (RowKit.wrap64 (n - n)) = ((1, 0, []) : V9)))) := by kernel_rfl
  rw [h, Int.sub_self, show RowKit.wrap64 0 = 0 from by unfold RowKit.wrap64; omega]
  unfold nm
  rw [decide_eq_true rfl]
  rfl
theorem lg_rk4 (x y n : Int) (hn : -9223372036854775808 ≤ n ∧ n ≤ 9223372036854775807) : rk lgX4 (lgV x y n) lgX4.length (lgX4.length - 1) = .ok (2, 1, []) := by
  have h : rk lgX4 (lgV x y n) lgX4.length (lgX4.length - 1) = .ok (tr (decide (tr (lesV ((1, n, []) : V9) (1, IntKind.i64.wrap (n + 0), [])) = ((2, 0, []) : V9)))) := by kernel_rfl
  have h2 : lesV ((1, n, []) : V9) (1, n, []) = false := by
    unfold lesV
    rw [if_pos rfl, if_pos rfl]
    kernel_rfl
  rw [h, Int.add_zero, wrap_id hn, h2]
  rfl
theorem lg_rk5 (x y n : Int) (hn : -9223372036854775808 ≤ n ∧ n ≤ 9223372036854775807) : rk lgX5 (lgV x y n) lgX5.length (lgX5.length - 1) = .ok (2, 1, []) := by
  have h : rk lgX5 (lgV x y n) lgX5.length (lgX5.length - 1) = .ok (tr (decide (nm (RowKit.wrap64 (-(RowKit.wrap64 (-n)))) = ((1, n, []) : V9)))) := by kernel_rfl
  have h2 : RowKit.wrap64 (-(RowKit.wrap64 (-n))) = n := by unfold RowKit.wrap64; omega
  rw [h, h2]
  unfold nm
  rw [decide_eq_true rfl]
  rfl
theorem lgV_len (x y n : Int) : (lgV x y n).length ≤ 4611686018427387904 := Nat.le_of_ble_eq_true rfl
theorem lgV_sm {x y n : Int} (hx : x = 0 ∨ x = 1) (hy : y = 0 ∨ y = 1) (hn : -9223372036854775808 ≤ n ∧ n ≤ 9223372036854775807) : Sm9 (lgV x y n) := fun p hp => by
  have h3 : p = (⟨#[97]⟩, 2, x, []) ∨ p = (⟨#[98]⟩, 2, y, []) ∨ p = (⟨#[110]⟩, 1, n, []) := by simpa [lgV] using hp
  rcases h3 with rfl | rfl | rfl
  · exact ⟨Nat.le_of_ble_eq_true rfl, ⟨by show (-9223372036854775808 : Int) ≤ 2; omega, by show (2 : Int) ≤ 9223372036854775807; omega⟩, ⟨by show (-9223372036854775808 : Int) ≤ x; omega, by show x ≤ (9223372036854775807 : Int); omega⟩, Nat.zero_le _⟩
  · exact ⟨Nat.le_of_ble_eq_true rfl, ⟨by show (-9223372036854775808 : Int) ≤ 2; omega, by show (2 : Int) ≤ 9223372036854775807; omega⟩, ⟨by show (-9223372036854775808 : Int) ≤ y; omega, by show y ≤ (9223372036854775807 : Int); omega⟩, Nat.zero_le _⟩
  · exact ⟨Nat.le_of_ble_eq_true rfl, ⟨by show (-9223372036854775808 : Int) ≤ 1; omega, by show (1 : Int) ≤ 9223372036854775807; omega⟩, hn, Nat.zero_le _⟩
def lgT : List (List UInt8) := [lgT0, lgT1, lgT2, lgT3, lgT4, lgT5, lgT6]
/-- the texts, one by one -/
theorem lg_all {x y n : Int} (hx : x = 0 ∨ x = 1) (hy : y = 0 ∨ y = 1) (hn : -9223372036854775808 ≤ n ∧ n ≤ 9223372036854775807) : ∀ i (h : i < 7), ∃ l, prs 80 (lgT[i]'h) = some (l, 0, 0) ∧ evl l (lgV x y n) = ((2, 1, []), 0) ∧ (∀ p ∈ l, p.2.2.2.2.2.length ≤ 4611686018427387904) ∧ l.length ≤ 4611686018427387904 := by
  have hr : rgt (lgV x y n) = true := by
    rcases hx with rfl | rfl <;> rcases hy with rfl | rfl
    · exact lg_rgt00 n
    · exact lg_rgt01 n
    · exact lg_rgt10 n
    · exact lg_rgt11 n
  intro i h
  have hc : i = 0 ∨ i = 1 ∨ i = 2 ∨ i = 3 ∨ i = 4 ∨ i = 5 ∨ i = 6 := by omega
  rcases hc with rfl | rfl | rfl | rfl | rfl | rfl | rfl
  · refine ⟨lgX0, lg_prs0, evl_of lg_may0 hr ?_, lg_sm0, by decide⟩
    rcases hx with rfl | rfl <;> rcases hy with rfl | rfl
    · exact lg_rk000 n
    · exact lg_rk001 n
    · exact lg_rk010 n
    · exact lg_rk011 n
  · refine ⟨lgX1, lg_prs1, evl_of lg_may1 hr ?_, lg_sm1, by decide⟩
    rcases hx with rfl | rfl <;> rcases hy with rfl | rfl
    · exact lg_rk100 n
    · exact lg_rk101 n
    · exact lg_rk110 n
    · exact lg_rk111 n
  · refine ⟨lgX2, lg_prs2, evl_of lg_may2 hr ?_, lg_sm2, by decide⟩
    rcases hx with rfl | rfl <;> rcases hy with rfl | rfl
    · exact lg_rk200 n
    · exact lg_rk201 n
    · exact lg_rk210 n
    · exact lg_rk211 n
  · exact ⟨lgX3, lg_prs3, evl_of lg_may3 hr (lg_rk3 x y n), lg_sm3, by decide⟩
  · exact ⟨lgX4, lg_prs4, evl_of lg_may4 hr (lg_rk4 x y n hn), lg_sm4, by decide⟩
  · exact ⟨lgX5, lg_prs5, evl_of lg_may5 hr (lg_rk5 x y n hn), lg_sm5, by decide⟩
  · refine ⟨lgX6, lg_prs6, evl_of lg_may6 hr ?_, lg_sm6, by decide⟩
    rcases hx with rfl | rfl <;> rcases hy with rfl | rfl
    · exact lg_rk600 n
    · exact lg_rk601 n
    · exact lg_rk610 n
    · exact lg_rk611 n
end Go.Proofs.YtpdengbdnijcfaaGreatDoor.x10

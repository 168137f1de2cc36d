/-
  Package rec's fields: the closures that write and take each, made.
-/
import Derived.Test.YtippnkendoghpaaR12Pure
import Derived.Deep.RegionHeld3
namespace Go.Proofs.Ytippnkendoghpaa.r12
open Go.RowKit Go.Shelf Go.Sort
open Go.Lib hiding intOf

/-- a field: the two closures, over the box in block x -/
def fV (g h x : Nat) : Value := .agg #[.func (.func g) #[] #[.pointer (some ⟨x, 0, none⟩)], .func (.func h) #[] #[.pointer (some ⟨x, 0, none⟩)]]
/-- what making a field leaves: its box holds the pointer -/
def Mk (w w' : World) (x : Nat) (p : Addr) : Prop := Below w.heap.size w w' ∧ w.heap.size ≤ x ∧ x < w'.heap.size ∧ w'.cell? ⟨x, 0, none⟩ = some (.pointer (some p))
theorem st0 (u : World) (n : Nat) (hn : n = u.heap.size) (T : TypeId) (fn : Fn) (c : Array Value) (y : Value) : (store ⟨n, 0, none⟩ (.func fn #[] c)).run Try.prog (u.alloc (.cells #[.nilFunc, y] T)) = .ok () (u.alloc (.cells #[.func fn #[] c, y] T)) := by
  subst hn
  rw [run_store Try.prog _ _ _ _ rfl]
  go_simp
theorem st1 (u : World) (n : Nat) (hn : n = u.heap.size) (T : TypeId) (fn : Fn) (c : Array Value) (y : Value) : (store ⟨n, 1, none⟩ (.func fn #[] c)).run Try.prog (u.alloc (.cells #[y, .nilFunc] T)) = .ok () (u.alloc (.cells #[y, .func fn #[] c] T)) := by
  subst hn
  rw [run_store Try.prog _ _ _ _ rfl]
  go_simp

set_option maxHeartbeats 400000 in
theorem small_mk (p : Addr) (w : World) : Calls Try.prog 39 #[.pointer (some p)] w fun e w' => ∃ x, e = .returned (fV 56 57 x) ∧ Mk w w' x p := by
  have hmf : ∀ (fn : Fn) (first cap : Array Value) (w : World), (Instr.makeFunc fn first cap).run Try.prog w = .ok (.func fn first cap) w := fun _ _ _ _ => rfl
  have hs0 := fun t fn c y => st0 (w.alloc (.cells #[.pointer (some p)] t)) (w.heap.size + 1) (by simp) 77 fn c y
  have hs1 := fun t fn c y => st1 (w.alloc (.cells #[.pointer (some p)] t)) (w.heap.size + 1) (by simp) 77 fn c y
  have HB : Hid (∀ a b t, Below w.heap.size w ((w.alloc (.cells #[.pointer (some p)] t)).alloc (.cells #[a, b] 77))) := fun a b t => ((Below.refl _ _).alloc (Nat.le_refl _) _).alloc (by rw [World.size_alloc]; omega) _
  have HC : Hid (∀ a b t, ((w.alloc (.cells #[.pointer (some p)] t)).alloc (.cells #[a, b] 77)).cell? ⟨w.heap.size, 0, none⟩ = some (.pointer (some p))) := fun a b t => by go_simp
  go_enter Try.func39, Try.ntmps39
  go_wp2
  refine bodyPost_ret (v := fV 56 57 w.heap.size) (by simp [results, Try.results39, go_sem, fV]) rfl ⟨w.heap.size, rfl, ?_⟩
  exact ⟨HB.out _ _ _, Nat.le_refl _, by simp; omega, HC.out _ _ _⟩

set_option maxHeartbeats 400000 in
theorem count_mk (p : Addr) (w : World) : Calls Try.prog 40 #[.pointer (some p)] w fun e w' => ∃ x, e = .returned (fV 59 61 x) ∧ Mk w w' x p := by
  have hmf : ∀ (fn : Fn) (first cap : Array Value) (w : World), (Instr.makeFunc fn first cap).run Try.prog w = .ok (.func fn first cap) w := fun _ _ _ _ => rfl
  have hs0 := fun t fn c y => st0 (w.alloc (.cells #[.pointer (some p)] t)) (w.heap.size + 1) (by simp) 77 fn c y
  have hs1 := fun t fn c y => st1 (w.alloc (.cells #[.pointer (some p)] t)) (w.heap.size + 1) (by simp) 77 fn c y
  have HB : Hid (∀ a b t, Below w.heap.size w ((w.alloc (.cells #[.pointer (some p)] t)).alloc (.cells #[a, b] 77))) := fun a b t => ((Below.refl _ _).alloc (Nat.le_refl _) _).alloc (by rw [World.size_alloc]; omega) _
  have HC : Hid (∀ a b t, ((w.alloc (.cells #[.pointer (some p)] t)).alloc (.cells #[a, b] 77)).cell? ⟨w.heap.size, 0, none⟩ = some (.pointer (some p))) := fun a b t => by go_simp
  go_enter Try.func40, Try.ntmps40
  go_wp2
  refine bodyPost_ret (v := fV 59 61 w.heap.size) (by simp [results, Try.results40, go_sem, fV]) rfl ⟨w.heap.size, rfl, ?_⟩
  exact ⟨HB.out _ _ _, Nat.le_refl _, by simp; omega, HC.out _ _ _⟩

set_option maxHeartbeats 400000 in
theorem number_mk (p : Addr) (w : World) : Calls Try.prog 41 #[.pointer (some p)] w fun e w' => ∃ x, e = .returned (fV 63 65 x) ∧ Mk w w' x p := by
  have hmf : ∀ (fn : Fn) (first cap : Array Value) (w : World), (Instr.makeFunc fn first cap).run Try.prog w = .ok (.func fn first cap) w := fun _ _ _ _ => rfl
  have hs0 := fun t fn c y => st0 (w.alloc (.cells #[.pointer (some p)] t)) (w.heap.size + 1) (by simp) 77 fn c y
  have hs1 := fun t fn c y => st1 (w.alloc (.cells #[.pointer (some p)] t)) (w.heap.size + 1) (by simp) 77 fn c y
  have HB : Hid (∀ a b t, Below w.heap.size w ((w.alloc (.cells #[.pointer (some p)] t)).alloc (.cells #[a, b] 77))) := fun a b t => ((Below.refl _ _).alloc (Nat.le_refl _) _).alloc (by rw [World.size_alloc]; omega) _
  have HC : Hid (∀ a b t, ((w.alloc (.cells #[.pointer (some p)] t)).alloc (.cells #[a, b] 77)).cell? ⟨w.heap.size, 0, none⟩ = some (.pointer (some p))) := fun a b t => by go_simp
  go_enter Try.func41, Try.ntmps41
  go_wp2
  refine bodyPost_ret (v := fV 63 65 w.heap.size) (by simp [results, Try.results41, go_sem, fV]) rfl ⟨w.heap.size, rfl, ?_⟩
  exact ⟨HB.out _ _ _, Nat.le_refl _, by simp; omega, HC.out _ _ _⟩

set_option maxHeartbeats 400000 in
theorem text_mk (p : Addr) (w : World) : Calls Try.prog 42 #[.pointer (some p)] w fun e w' => ∃ x, e = .returned (fV 67 69 x) ∧ Mk w w' x p := by
  have hmf : ∀ (fn : Fn) (first cap : Array Value) (w : World), (Instr.makeFunc fn first cap).run Try.prog w = .ok (.func fn first cap) w := fun _ _ _ _ => rfl
  have hs0 := fun t fn c y => st0 (w.alloc (.cells #[.pointer (some p)] t)) (w.heap.size + 1) (by simp) 77 fn c y
  have hs1 := fun t fn c y => st1 (w.alloc (.cells #[.pointer (some p)] t)) (w.heap.size + 1) (by simp) 77 fn c y
  have HB : Hid (∀ a b t, Below w.heap.size w ((w.alloc (.cells #[.pointer (some p)] t)).alloc (.cells #[a, b] 77))) := fun a b t => ((Below.refl _ _).alloc (Nat.le_refl _) _).alloc (by rw [World.size_alloc]; omega) _
  have HC : Hid (∀ a b t, ((w.alloc (.cells #[.pointer (some p)] t)).alloc (.cells #[a, b] 77)).cell? ⟨w.heap.size, 0, none⟩ = some (.pointer (some p))) := fun a b t => by go_simp
  go_enter Try.func42, Try.ntmps42
  go_wp2
  refine bodyPost_ret (v := fV 67 69 w.heap.size) (by simp [results, Try.results42, go_sem, fV]) rfl ⟨w.heap.size, rfl, ?_⟩
  exact ⟨HB.out _ _ _, Nat.le_refl _, by simp; omega, HC.out _ _ _⟩

set_option maxHeartbeats 400000 in
theorem list_mk (p : Addr) (w : World) : Calls Try.prog 43 #[.pointer (some p)] w fun e w' => ∃ x, e = .returned (fV 71 73 x) ∧ Mk w w' x p := by
  have hmf : ∀ (fn : Fn) (first cap : Array Value) (w : World), (Instr.makeFunc fn first cap).run Try.prog w = .ok (.func fn first cap) w := fun _ _ _ _ => rfl
  have hs0 := fun t fn c y => st0 (w.alloc (.cells #[.pointer (some p)] t)) (w.heap.size + 1) (by simp) 77 fn c y
  have hs1 := fun t fn c y => st1 (w.alloc (.cells #[.pointer (some p)] t)) (w.heap.size + 1) (by simp) 77 fn c y
  have HB : Hid (∀ a b t, Below w.heap.size w ((w.alloc (.cells #[.pointer (some p)] t)).alloc (.cells #[a, b] 77))) := fun a b t => ((Below.refl _ _).alloc (Nat.le_refl _) _).alloc (by rw [World.size_alloc]; omega) _
  have HC : Hid (∀ a b t, ((w.alloc (.cells #[.pointer (some p)] t)).alloc (.cells #[a, b] 77)).cell? ⟨w.heap.size, 0, none⟩ = some (.pointer (some p))) := fun a b t => by go_simp
  go_enter Try.func43, Try.ntmps43
  go_wp2
  refine bodyPost_ret (v := fV 71 73 w.heap.size) (by simp [results, Try.results43, go_sem, fV]) rfl ⟨w.heap.size, rfl, ?_⟩
  exact ⟨HB.out _ _ _, Nat.le_refl _, by simp; omega, HC.out _ _ _⟩

def GW : List Nat := [56, 56, 59, 63, 59, 59, 59, 63, 63, 67, 67, 67, 71]
def GT : List Nat := [57, 57, 61, 65, 61, 61, 61, 65, 65, 69, 69, 69, 73]
/-- the boxes that were made, since world w -/
def Fd (w u : World) (X : List Nat) (rb : Nat) : Prop := Below w.heap.size w u ∧ ∀ j, j < X.length → (w.heap.size ≤ X.getD j 0 ∧ X.getD j 0 < u.heap.size) ∧ u.cell? ⟨X.getD j 0, 0, none⟩ = some (.pointer (some ⟨rb, j, none⟩))
theorem Fd.nil (w : World) (rb : Nat) : Fd w w [] rb := ⟨Below.refl _ _, fun j h => by cases h⟩
theorem Fd.drew {w u : World} {X : List Nat} {rb : Nat} (h : Fd w u X rb) : Fd w u.drew X rb := ⟨h.1.drew, h.2⟩
theorem Fd.up {w u u2 : World} {X : List Nat} {rb : Nat} (h : Fd w u X rb) (hb : Below u.heap.size u u2) : Fd w u2 X rb := by
  refine ⟨bel_of h.1 hb (Nat.le_refl _), fun j hj => ?_⟩
  have k := h.2 j hj
  exact ⟨⟨k.1.1, Nat.lt_of_lt_of_le k.1.2 hb.size⟩, (hb.cell (p := ⟨X.getD j 0, 0, none⟩) k.1.2).trans k.2⟩
theorem Fd.snoc {w u u2 : World} {X : List Nat} {rb x : Nat} (h : Fd w u X rb) (m : Mk u u2 x ⟨rb, X.length, none⟩) : Fd w u2 (X ++ [x]) rb := by
  obtain ⟨m1, m2, m3, m4⟩ := m
  have h2 := h.up m1
  refine ⟨h2.1, fun j hj => ?_⟩
  rw [List.length_append, List.length_singleton] at hj
  by_cases e : j = X.length
  · subst e
    have hx : (X ++ [x]).getD X.length 0 = x := by simp
    rw [hx]
    exact ⟨⟨Nat.le_trans h.1.size m2, m3⟩, m4⟩
  · have hx : (X ++ [x]).getD j 0 = X.getD j 0 := by simp [List.getD, List.getElem?_append_left (show j < X.length by omega)]
    rw [hx]
    exact h2.2 j (by omega)
/-- the fields in memory: the row of closures in block fb, their boxes X, over the record in block rb -/
def Fds (w u : World) (rb fb : Nat) (X : List Nat) : Prop := Below w.heap.size w u ∧ (w.heap.size ≤ fb ∧ fb < u.heap.size) ∧ ∀ j, j < 13 → (w.heap.size ≤ X.getD j 0 ∧ X.getD j 0 < u.heap.size) ∧ u.cell? ⟨X.getD j 0, 0, none⟩ = some (.pointer (some ⟨rb, j, none⟩)) ∧ u.cell? ⟨fb, j * 2, none⟩ = some (.func (.func (GW.getD j 0)) #[] #[.pointer (some ⟨X.getD j 0, 0, none⟩)]) ∧ u.cell? ⟨fb, j * 2 + 1, none⟩ = some (.func (.func (GT.getD j 0)) #[] #[.pointer (some ⟨X.getD j 0, 0, none⟩)])
theorem fds_new {w u : World} {rb x0 x1 x2 x3 x4 x5 x6 x7 x8 x9 x10 x11 x12 : Nat} (h : Fd w u [x0, x1, x2, x3, x4, x5, x6, x7, x8, x9, x10, x11, x12] rb) : Fds w (u.alloc (.cells #[.func (.func 56) #[] #[.pointer (some ⟨x0, 0, none⟩)], .func (.func 57) #[] #[.pointer (some ⟨x0, 0, none⟩)], .func (.func 56) #[] #[.pointer (some ⟨x1, 0, none⟩)], .func (.func 57) #[] #[.pointer (some ⟨x1, 0, none⟩)], .func (.func 59) #[] #[.pointer (some ⟨x2, 0, none⟩)], .func (.func 61) #[] #[.pointer (some ⟨x2, 0, none⟩)], .func (.func 63) #[] #[.pointer (some ⟨x3, 0, none⟩)], .func (.func 65) #[] #[.pointer (some ⟨x3, 0, none⟩)], .func (.func 59) #[] #[.pointer (some ⟨x4, 0, none⟩)], .func (.func 61) #[] #[.pointer (some ⟨x4, 0, none⟩)], .func (.func 59) #[] #[.pointer (some ⟨x5, 0, none⟩)], .func (.func 61) #[] #[.pointer (some ⟨x5, 0, none⟩)], .func (.func 59) #[] #[.pointer (some ⟨x6, 0, none⟩)], .func (.func 61) #[] #[.pointer (some ⟨x6, 0, none⟩)], .func (.func 63) #[] #[.pointer (some ⟨x7, 0, none⟩)], .func (.func 65) #[] #[.pointer (some ⟨x7, 0, none⟩)], .func (.func 63) #[] #[.pointer (some ⟨x8, 0, none⟩)], .func (.func 65) #[] #[.pointer (some ⟨x8, 0, none⟩)], .func (.func 67) #[] #[.pointer (some ⟨x9, 0, none⟩)], .func (.func 69) #[] #[.pointer (some ⟨x9, 0, none⟩)], .func (.func 67) #[] #[.pointer (some ⟨x10, 0, none⟩)], .func (.func 69) #[] #[.pointer (some ⟨x10, 0, none⟩)], .func (.func 67) #[] #[.pointer (some ⟨x11, 0, none⟩)], .func (.func 69) #[] #[.pointer (some ⟨x11, 0, none⟩)], .func (.func 71) #[] #[.pointer (some ⟨x12, 0, none⟩)], .func (.func 73) #[] #[.pointer (some ⟨x12, 0, none⟩)]] 77)) rb u.heap.size [x0, x1, x2, x3, x4, x5, x6, x7, x8, x9, x10, x11, x12] := by
  have h2 := h.up ((Below.refl _ u).alloc (Nat.le_refl _) (.cells #[.func (.func 56) #[] #[.pointer (some ⟨x0, 0, none⟩)], .func (.func 57) #[] #[.pointer (some ⟨x0, 0, none⟩)], .func (.func 56) #[] #[.pointer (some ⟨x1, 0, none⟩)], .func (.func 57) #[] #[.pointer (some ⟨x1, 0, none⟩)], .func (.func 59) #[] #[.pointer (some ⟨x2, 0, none⟩)], .func (.func 61) #[] #[.pointer (some ⟨x2, 0, none⟩)], .func (.func 63) #[] #[.pointer (some ⟨x3, 0, none⟩)], .func (.func 65) #[] #[.pointer (some ⟨x3, 0, none⟩)], .func (.func 59) #[] #[.pointer (some ⟨x4, 0, none⟩)], .func (.func 61) #[] #[.pointer (some ⟨x4, 0, none⟩)], .func (.func 59) #[] #[.pointer (some ⟨x5, 0, none⟩)], .func (.func 61) #[] #[.pointer (some ⟨x5, 0, none⟩)], .func (.func 59) #[] #[.pointer (some ⟨x6, 0, none⟩)], .func (.func 61) #[] #[.pointer (some ⟨x6, 0, none⟩)], .func (.func 63) #[] #[.pointer (some ⟨x7, 0, none⟩)], .func (.func 65) #[] #[.pointer (some ⟨x7, 0, none⟩)], .func (.func 63) #[] #[.pointer (some ⟨x8, 0, none⟩)], .func (.func 65) #[] #[.pointer (some ⟨x8, 0, none⟩)], .func (.func 67) #[] #[.pointer (some ⟨x9, 0, none⟩)], .func (.func 69) #[] #[.pointer (some ⟨x9, 0, none⟩)], .func (.func 67) #[] #[.pointer (some ⟨x10, 0, none⟩)], .func (.func 69) #[] #[.pointer (some ⟨x10, 0, none⟩)], .func (.func 67) #[] #[.pointer (some ⟨x11, 0, none⟩)], .func (.func 69) #[] #[.pointer (some ⟨x11, 0, none⟩)], .func (.func 71) #[] #[.pointer (some ⟨x12, 0, none⟩)], .func (.func 73) #[] #[.pointer (some ⟨x12, 0, none⟩)]] 77))
  refine ⟨h2.1, ⟨h.1.size, by simp⟩, fun j hj => ⟨(h2.2 j hj).1, (h2.2 j hj).2, ?_, ?_⟩⟩
  · match j, hj with
    | 0, _ => exact World.cell?_alloc_new _ _ _ _
    | 1, _ => exact World.cell?_alloc_new _ _ _ _
    | 2, _ => exact World.cell?_alloc_new _ _ _ _
    | 3, _ => exact World.cell?_alloc_new _ _ _ _
    | 4, _ => exact World.cell?_alloc_new _ _ _ _
    | 5, _ => exact World.cell?_alloc_new _ _ _ _
    | 6, _ => exact World.cell?_alloc_new _ _ _ _
    | 7, _ => exact World.cell?_alloc_new _ _ _ _
    | 8, _ => exact World.cell?_alloc_new _ _ _ _
    | 9, _ => exact World.cell?_alloc_new _ _ _ _
    | 10, _ => exact World.cell?_alloc_new _ _ _ _
    | 11, _ => exact World.cell?_alloc_new _ _ _ _
    | 12, _ => exact World.cell?_alloc_new _ _ _ _
  · match j, hj with
    | 0, _ => exact World.cell?_alloc_new _ _ _ _
    | 1, _ => exact World.cell?_alloc_new _ _ _ _
    | 2, _ => exact World.cell?_alloc_new _ _ _ _
    | 3, _ => exact World.cell?_alloc_new _ _ _ _
    | 4, _ => exact World.cell?_alloc_new _ _ _ _
    | 5, _ => exact World.cell?_alloc_new _ _ _ _
    | 6, _ => exact World.cell?_alloc_new _ _ _ _
    | 7, _ => exact World.cell?_alloc_new _ _ _ _
    | 8, _ => exact World.cell?_alloc_new _ _ _ _
    | 9, _ => exact World.cell?_alloc_new _ _ _ _
    | 10, _ => exact World.cell?_alloc_new _ _ _ _
    | 11, _ => exact World.cell?_alloc_new _ _ _ _
    | 12, _ => exact World.cell?_alloc_new _ _ _ _

set_option maxHeartbeats 4000000 in
set_option maxRecDepth 100000 in
theorem fields_any (rb : Nat) (w : World) : Calls Try.prog 19 #[.pointer (some ⟨rb, 0, none⟩)] w fun e w' => ∃ fb X, e = .returned (.slice (some ⟨fb, 0, none⟩) 13 13) ∧ Fds w w' rb fb X := by
  have C0 := small_mk ⟨rb, 0, none⟩
  have C1 := small_mk ⟨rb, 1, none⟩
  have C2 := count_mk ⟨rb, 2, none⟩
  have C3 := number_mk ⟨rb, 3, none⟩
  have C4 := count_mk ⟨rb, 4, none⟩
  have C5 := count_mk ⟨rb, 5, none⟩
  have C6 := count_mk ⟨rb, 6, none⟩
  have C7 := number_mk ⟨rb, 7, none⟩
  have C8 := number_mk ⟨rb, 8, none⟩
  have C9 := text_mk ⟨rb, 9, none⟩
  have C10 := text_mk ⟨rb, 10, none⟩
  have C11 := text_mk ⟨rb, 11, none⟩
  have C12 := list_mk ⟨rb, 12, none⟩
  unfold fV at C0 C1 C2 C3 C4 C5 C6 C7 C8 C9 C10 C11 C12
  go_enter Try.func19, Try.ntmps19
  go_wp2
  go_region_held3 (fun _ => True) (trivial) (first
    | (go_at_call_of 39 (Value.pointer (some ⟨rb, 0, none⟩)); refine (C0 _).mono ?_; rintro e u0 ⟨x0, rfl, m⟩; (have F0 : Hid (Fd w u0 [x0] rb) := by first | exact (Fd.nil w rb).snoc m | exact (Fd.nil w rb).drew.snoc m); clear m C0)
    | (go_at_call_of 39 (Value.pointer (some ⟨rb, 1, none⟩)); refine (C1 _).mono ?_; rintro e u1 ⟨x1, rfl, m⟩; (have F1 : Hid (Fd w u1 [x0, x1] rb) := by first | exact F0.out.snoc m | exact F0.out.drew.snoc m); clear m C1 F0)
    | (go_at_call_of 40 (Value.pointer (some ⟨rb, 2, none⟩)); refine (C2 _).mono ?_; rintro e u2 ⟨x2, rfl, m⟩; (have F2 : Hid (Fd w u2 [x0, x1, x2] rb) := by first | exact F1.out.snoc m | exact F1.out.drew.snoc m); clear m C2 F1)
    | (go_at_call_of 41 (Value.pointer (some ⟨rb, 3, none⟩)); refine (C3 _).mono ?_; rintro e u3 ⟨x3, rfl, m⟩; (have F3 : Hid (Fd w u3 [x0, x1, x2, x3] rb) := by first | exact F2.out.snoc m | exact F2.out.drew.snoc m); clear m C3 F2)
    | (go_at_call_of 40 (Value.pointer (some ⟨rb, 4, none⟩)); refine (C4 _).mono ?_; rintro e u4 ⟨x4, rfl, m⟩; (have F4 : Hid (Fd w u4 [x0, x1, x2, x3, x4] rb) := by first | exact F3.out.snoc m | exact F3.out.drew.snoc m); clear m C4 F3)
    | (go_at_call_of 40 (Value.pointer (some ⟨rb, 5, none⟩)); refine (C5 _).mono ?_; rintro e u5 ⟨x5, rfl, m⟩; (have F5 : Hid (Fd w u5 [x0, x1, x2, x3, x4, x5] rb) := by first | exact F4.out.snoc m | exact F4.out.drew.snoc m); clear m C5 F4)
    | (go_at_call_of 40 (Value.pointer (some ⟨rb, 6, none⟩)); refine (C6 _).mono ?_; rintro e u6 ⟨x6, rfl, m⟩; (have F6 : Hid (Fd w u6 [x0, x1, x2, x3, x4, x5, x6] rb) := by first | exact F5.out.snoc m | exact F5.out.drew.snoc m); clear m C6 F5)
    | (go_at_call_of 41 (Value.pointer (some ⟨rb, 7, none⟩)); refine (C7 _).mono ?_; rintro e u7 ⟨x7, rfl, m⟩; (have F7 : Hid (Fd w u7 [x0, x1, x2, x3, x4, x5, x6, x7] rb) := by first | exact F6.out.snoc m | exact F6.out.drew.snoc m); clear m C7 F6)
    | (go_at_call_of 41 (Value.pointer (some ⟨rb, 8, none⟩)); refine (C8 _).mono ?_; rintro e u8 ⟨x8, rfl, m⟩; (have F8 : Hid (Fd w u8 [x0, x1, x2, x3, x4, x5, x6, x7, x8] rb) := by first | exact F7.out.snoc m | exact F7.out.drew.snoc m); clear m C8 F7)
    | (go_at_call_of 42 (Value.pointer (some ⟨rb, 9, none⟩)); refine (C9 _).mono ?_; rintro e u9 ⟨x9, rfl, m⟩; (have F9 : Hid (Fd w u9 [x0, x1, x2, x3, x4, x5, x6, x7, x8, x9] rb) := by first | exact F8.out.snoc m | exact F8.out.drew.snoc m); clear m C9 F8)
    | (go_at_call_of 42 (Value.pointer (some ⟨rb, 10, none⟩)); refine (C10 _).mono ?_; rintro e u10 ⟨x10, rfl, m⟩; (have F10 : Hid (Fd w u10 [x0, x1, x2, x3, x4, x5, x6, x7, x8, x9, x10] rb) := by first | exact F9.out.snoc m | exact F9.out.drew.snoc m); clear m C10 F9)
    | (go_at_call_of 42 (Value.pointer (some ⟨rb, 11, none⟩)); refine (C11 _).mono ?_; rintro e u11 ⟨x11, rfl, m⟩; (have F11 : Hid (Fd w u11 [x0, x1, x2, x3, x4, x5, x6, x7, x8, x9, x10, x11] rb) := by first | exact F10.out.snoc m | exact F10.out.drew.snoc m); clear m C11 F10)
    | (go_at_call_of 43 (Value.pointer (some ⟨rb, 12, none⟩)); refine (C12 _).mono ?_; rintro e u12 ⟨x12, rfl, m⟩; (have F12 : Hid (Fd w u12 [x0, x1, x2, x3, x4, x5, x6, x7, x8, x9, x10, x11, x12] rb) := by first | exact F11.out.snoc m | exact F11.out.drew.snoc m); clear m C12 F11))
  all_goals
    go_wp2
    go_ret
    exact ⟨u12.heap.size, _, rfl, fds_new F12.out⟩
end Go.Proofs.Ytippnkendoghpaa.r12

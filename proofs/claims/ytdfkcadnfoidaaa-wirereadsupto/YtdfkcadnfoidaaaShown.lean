/-
  The head of all statements of layer 1, shown: the document's examples come out true, and nothing that was there before the call is changed.
-/
import Derived.Test.YtdfkcadnfoidaaaTextCalls
namespace Go.Proofs.Ytdfkcadnfoidaaa
open Go.RowKit

set_option maxHeartbeats 400000 in
theorem Read_any (l : List UInt8) (w : World) : Calls Try.prog 18 #[.string (S l)] w fun r w' => r = .returned (.pointer (some ⟨w.heap.size, 0, none⟩)) ∧ Rd w' w.heap.size l 0 ∧ Below w.heap.size w w' ∧ w'.heap.size = w.heap.size + 1 := by
  go_enter Try.func18, Try.ntmps18
  go_wp2
  go_ret
  exact ⟨rfl, ⟨by go_simp, by go_simp, by go_simp, by go_simp, by simp⟩, (Below.refl _ _).alloc (Nat.le_refl _) _, by simp⟩

theorem S_lit (l : List UInt8) : (⟨l.toArray⟩ : ByteArray) = S l := rfl
theorem u300 : Lib.uvarint 300 = [172, 2] := by rw [Lib.uvarint_big (by omega), Lib.uvarint_small (by omega)]; rfl
theorem u1 : Lib.uvarint (Lib.zigzag (-1)) = [1] := by rw [show Lib.zigzag (-1) = 1 from rfl, Lib.uvarint_small (by omega)]; rfl
theorem uab : txt [97, 98] = [2, 97, 98] := by unfold txt; rw [Lib.uvarint_small (by simp)]; rfl
theorem n80 : numb 0 0 [128, 0] = (0, [], 3) := by decide
theorem t05 : tex 4 [5, 97] = ([], [97], 13) := by decide

theorem next {u v w : World} (h : Below u.heap.size u v) (k : Below v.heap.size v w) : Below u.heap.size u w := h.trans (k.mono h.size)
theorem nextBut {b : Nat} {u v w : World} (h : Below u.heap.size u v) (k : But b v w) (hb : u.heap.size ≤ b) : Below u.heap.size u w := h.trans (k.below hb h.size)

theorem shownU (w : World) : Calls Try.prog 10 #[.int .u64 300] w fun e w' => e = .returned (.string ⟨#[172, 2]⟩) ∧ Below w.heap.size w w' := by
  have h := Uint_any 300 (by omega) w
  rw [u300] at h
  exact h
theorem shownI (w : World) : Calls Try.prog 12 #[.int .i64 (-1)] w fun e w' => e = .returned (.string ⟨#[1]⟩) ∧ Below w.heap.size w w' := by
  have h := Int_any (-1) (by omega) (by omega) w
  rw [u1] at h
  exact h
theorem shownT (w : World) : Calls Try.prog 14 #[.string ⟨#[97, 98]⟩] w fun e w' => e = .returned (.string ⟨#[2, 97, 98]⟩) ∧ Below w.heap.size w w' := by
  have h := Text_any [97, 98] (by simp) w
  rw [uab] at h
  exact h
theorem shownR (w : World) : Calls Try.prog 18 #[.string ⟨#[128, 0]⟩] w fun r w' => r = .returned (.pointer (some ⟨w.heap.size, 0, none⟩)) ∧ Rd w' w.heap.size [128, 0] 0 ∧ Below w.heap.size w w' ∧ w'.heap.size = w.heap.size + 1 := Read_any [128, 0] w
theorem shownQ (w : World) : Calls Try.prog 18 #[.string ⟨#[5, 97]⟩] w fun r w' => r = .returned (.pointer (some ⟨w.heap.size, 0, none⟩)) ∧ Rd w' w.heap.size [5, 97] 0 ∧ Below w.heap.size w w' ∧ w'.heap.size = w.heap.size + 1 := Read_any [5, 97] w

set_option maxHeartbeats 2000000 in
set_option maxRecDepth 100000 in
theorem shown_any (w : World) : Calls Try.prog 9 #[] w fun r w' => r = .returned (.bool true) ∧ Below w.heap.size w w' := by
  go_enter Try.func9, Try.ntmps9
  go_wp2_with fail
  refine (shownU _).mono ?_
  rintro r w1 ⟨rfl, b1⟩
  go_wp2_with fail
  refine (shownI _).mono ?_
  rintro r w2 ⟨rfl, b2⟩
  go_wp2_with fail
  refine (shownT _).mono ?_
  rintro r w3 ⟨rfl, b3⟩
  go_wp2_with fail
  refine (shownR _).mono ?_
  rintro r w4 ⟨rfl, rd4, b4, s4⟩
  have HS4 : Hid (w4.heap.size = w3.heap.size + 1) := s4
  clear s4
  go_wp2_with fail
  refine (Uint_bad rd4 n80 (by decide)).mono ?_
  rintro r w5 ⟨rfl, rd5, b5⟩
  go_wp2_with fail
  refine (shownQ _).mono ?_
  rintro r w6 ⟨rfl, rd6, b6, s6⟩
  have HS6 : Hid (w6.heap.size = w5.heap.size + 1) := s6
  clear s6
  go_wp2_with fail
  refine (Text_bad rd6 (by simp) (by omega) t05 (by decide)).mono ?_
  rintro r w7 ⟨rfl, rd7, b7⟩
  have rdA := (rd5.below b6 rd5.lt).but b7 (Nat.ne_of_lt rd5.lt)
  have hnil : (S []).toList.isEmpty = true := by simp [S_toList]
  have l3 := b1.size
  have l4 := b2.size
  have l5 := b3.size
  have l6 := rd5.lt
  have BB := nextBut (next (nextBut (next (next (next b1 b2) b3) b4) b5 (by omega)) b6) b7 (by omega)
  clear b1 b2 b3 b4 b5 b6 b7 rd4 rd5 rd6 HS4 HS6 l3 l4 l5 l6
  go_wp2_with fail
  refine (Err_any rdA).mono ?_
  rintro r w8 ⟨rfl, rfl⟩
  go_wp2_with fail
  refine (Err_any rd7).mono ?_
  rintro r w9 ⟨rfl, rfl⟩
  go_wp2
  go_ret
  exact ⟨rfl, BB⟩

end Go.Proofs.Ytdfkcadnfoidaaa

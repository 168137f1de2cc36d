/-
  The document's example, which stands at the head of all statements, is answered as the document says; and what a map that is nil answers.
-/
import Derived.Test.YtkohcdefhaokiaaSOps
namespace Go.Proofs.Ytkohcdefhaokiaa
open Go.RowKit Go.Shelf Go.Lib Go.Sort

def kb : ByteArray := ⟨#[98]⟩
def ka : ByteArray := ⟨#[97]⟩

theorem shown1 : put ([] : List (ByteArray × Int)) kb 1 = [(kb, 1)] := rfl
theorem lt_ab : lt ka kb = true := by rw [lt_iff]; decide
theorem lt_ba : lt kb ka = false := lt_asymm lt_ab
theorem kl_ab : (ka.toList == kb.toList) = false := by rw [Lib.toList_data, Lib.toList_data]; decide
theorem kl_ba : (kb.toList == ka.toList) = false := by rw [Lib.toList_data, Lib.toList_data]; decide
theorem shown2 : put [(kb, (1 : Int))] ka 2 = [(ka, 2), (kb, 1)] ∧ val [(kb, (1 : Int))] ka = 0 ∧ has [(kb, (1 : Int))] ka = false := by
  have h : has [(kb, (1 : Int))] ka = false := by simp [has, pos, lt_ba, kl_ba]
  exact ⟨by simp [put, h, pos, lt_ba], by simp [val, h], h⟩
theorem shown3 : put [(ka, (2 : Int)), (kb, 1)] kb 3 = [(ka, 2), (kb, 3)] ∧ val [(ka, (2 : Int)), (kb, 1)] kb = 1 ∧ has [(ka, (2 : Int)), (kb, 1)] kb = true := by
  have h : has [(ka, (2 : Int)), (kb, 1)] kb = true := by simp [has, pos, lt_ab, lt_irrefl]
  exact ⟨by simp [put, h, pos, lt_ab, lt_irrefl], by simp [val, h, pos, lt_ab, lt_irrefl], h⟩
theorem shown4 : del [(ka, (2 : Int)), (kb, 3)] ka = [(kb, 3)] ∧ val [(ka, (2 : Int)), (kb, 3)] ka = 2 ∧ has [(ka, (2 : Int)), (kb, 3)] ka = true := by
  have h : has [(ka, (2 : Int)), (kb, 3)] ka = true := by simp [has, pos, lt_irrefl]
  exact ⟨by simp [del, h, pos, lt_irrefl], by simp [val, h, pos, lt_irrefl], h⟩

set_option maxHeartbeats 2000000 in
theorem shown_any (w : World) : Calls Try.prog 9 #[] w fun e w' => e = .returned (.bool true) ∧ Below w.heap.size w w' := by
  go_enter Try.func9, Try.ntmps9
  go_wp2_with fail
  refine (New_any w).mono ?_
  rintro e w1 ⟨rfl, hM1, hB1⟩
  go_wp2_with fail
  refine (Put_any hM1 kb 1 (by decide)).mono ?_
  rintro e w2 ⟨rfl, sv2, q2, hM2, hT2⟩
  rw [shown1] at hM2
  go_wp2_with fail
  refine (Put_any hM2 ka 2 (by decide)).mono ?_
  rintro e w3 ⟨rfl, sv3, q3, hM3, hT3⟩
  rw [shown2.1] at hM3
  go_wp2_with fail
  refine (Put_any hM3 kb 3 (by decide)).mono ?_
  rintro e w4 ⟨rfl, sv4, q4, hM4, hT4⟩
  rw [shown3.1] at hM4
  rw [shown3.2.1, shown3.2.2]
  go_wp2_with fail
  refine (Del_any hM4 ka (by decide)).mono ?_
  rintro e w5 ⟨rfl, sv5, q5, c5, hM5, hT5⟩
  rw [shown4.1] at hM5
  rw [shown4.2.1, shown4.2.2]
  have hT := ((hT2.trans hT3).trans hT4).trans hT5
  have hB : Below w.heap.size w w5 := by
    refine hB1.trans (hT.1.below hB1.size (fun k hk hX => ?_))
    rcases hX with e | ⟨_, e⟩
    · omega
    · cases e
  have hL := Len_any hM5
  clear hM1 hM2 hM3 hM4 hM5 hT2 hT3 hT4 hT5 hT hB1
  go_wp2_with (go_at_call 12; refine hL.mono ?_; rintro e w' ⟨rfl, rfl⟩)
  go_ret
  exact ⟨rfl, hB⟩

set_option maxHeartbeats 400000 in
theorem Put_nil (k : ByteArray) (v : Int) (w : World) : Calls Try.prog 18 #[.pointer none, .string k, .int .i64 v] w fun e w' => e = .returned (.tuple #[.int .i64 0, .bool false]) ∧ w' = w := by
  go_enter Try.func18, Try.ntmps18
  go_wp2_with (go_at_call 38; refine (nothing_any _).mono ?_; rintro e w' ⟨rfl, rfl⟩)
  go_ret2
  exact ⟨rfl, rfl⟩
set_option maxHeartbeats 400000 in
theorem find_nil (k : ByteArray) (w : World) : Calls Try.prog 39 #[.pointer none, .string k] w fun e w' => e = .returned (.tuple #[.int .i64 0, .bool false]) ∧ w' = w := by
  go_enter Try.func39, Try.ntmps39
  go_wp2
  go_ret2
  exact ⟨rfl, rfl⟩
set_option maxHeartbeats 400000 in
theorem Get_nil (k : ByteArray) (w : World) : Calls Try.prog 25 #[.pointer none, .string k] w fun e w' => e = .returned (.tuple #[.int .i64 0, .bool false]) ∧ w' = w := by
  go_enter Try.func25, Try.ntmps25
  go_wp2_with (first | (go_at_call 39; refine (find_nil _ _).mono ?_; rintro e w' ⟨rfl, rfl⟩) | (go_at_call 38; refine (nothing_any _).mono ?_; rintro e w' ⟨rfl, rfl⟩))
  go_ret2
  exact ⟨rfl, rfl⟩
set_option maxHeartbeats 400000 in
theorem Del_nil (k : ByteArray) (w : World) : Calls Try.prog 19 #[.pointer none, .string k] w fun e w' => e = .returned (.tuple #[.int .i64 0, .bool false]) ∧ w' = w := by
  go_enter Try.func19, Try.ntmps19
  go_wp2_with (first | (go_at_call 39; refine (find_nil _ _).mono ?_; rintro e w' ⟨rfl, rfl⟩) | (go_at_call 38; refine (nothing_any _).mono ?_; rintro e w' ⟨rfl, rfl⟩))
  go_ret2
  exact ⟨rfl, rfl⟩
set_option maxHeartbeats 400000 in
theorem Len_nil (w : World) : Calls Try.prog 12 #[.pointer none] w fun e w' => e = .returned (.int .i64 0) ∧ w' = w := by
  go_enter Try.func12, Try.ntmps12
  go_wp2
  go_ret
  exact ⟨rfl, rfl⟩
set_option maxHeartbeats 400000 in
theorem Clone_nil (w : World) : Calls Try.prog 17 #[.pointer none] w fun e w' => e = .returned (.pointer (some ⟨w.heap.size, 0, none⟩)) ∧ Mp w' w.heap.size [] (.slice none 0 0) none 0 ∧ Below w.heap.size w w' := by
  go_enter Try.func17, Try.ntmps17
  go_wp2_with (go_at_call 10; refine (New_any _).mono ?_; rintro e w' ⟨rfl, hM, hB⟩)
  go_ret
  exact ⟨rfl, hM, hB⟩
end Go.Proofs.Ytkohcdefhaokiaa

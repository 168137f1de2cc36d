/-
  Contracts of the document's answer for what is written (wherryref01.Uint, Int, Text, List): the same bytes as those of package wire's contracts; nothing that was there before the call is changed.
-/
import Derived.Test.YtippnkendoghpaaGWire
import Derived.Test.YtippnkendoghpaaMarked
namespace Go.Proofs.Ytippnkendoghpaa
open Go.RowKit

theorem conv_one (W : World) (v : Int) (c : UInt8) (hv : (c.toNat : Int) = v) :
    (convert 71 9 (.slice (some ⟨W.heap.size, 0, none⟩) 1 1)).run Try.prog (W.alloc (.cells #[.int .u8 v] 5)) = .ok (.string (S [c])) (W.alloc (.cells #[.int .u8 v] 5)) := by
  refine run_convert_bytes_back _ 71 9 5 ⟨W.heap.size, 0, none⟩ 1 [c] Try.underlying71 Try.underlying5 Try.underlying9 (fun j hj => ?_)
  have hj0 : j = 0 := by simpa using hj
  subst hj0
  rw [Addr.add_lit, World.cell?_alloc_at _ _ _ _ (by simp)]
  simp [hv]

theorem S_append (a b : List UInt8) : S a ++ S b = S (a ++ b) := by
  apply ByteArray.ext
  simp [S]

set_option maxHeartbeats 1000000 in
set_option maxRecDepth 100000 in
theorem refUint_any (x : Nat) (hx : x < 18446744073709551616) (w : World) :
    Calls Try.prog 44 #[.int .u64 (x : Int)] w fun e w' => e = .returned (.string (S (Lib.uvarint x))) ∧ Below w.heap.size w w' := by
  go_enter Try.func44, Try.ntmps44
  go_wp2
  go_loopw [0, 3] (fun vx vs wr => ∃ (y : Nat) (pre : List UInt8), vx = .int .u64 (y : Int) ∧ y ≤ x ∧ vs = .string (S pre) ∧ Hid (Lib.uvarint x = pre ++ Lib.uvarint y) ∧ Below w.heap.size w wr)
    (fun vx _ _ => (intOf vx).toNat)
  case atStart => exact ⟨x, [], rfl, Nat.le_refl _, rfl, rfl, Below.refl _ _⟩
  case round =>
    obtain ⟨y, pre, rfl, hy, rfl, HS, hbel⟩ := hrel
    have hpl : pre.length + (Lib.uvarint y).length ≤ 10 := by
      have h2 := congrArg List.length HS.out
      have h3 := Lib.uvarint_length64 hx
      rw [List.length_append] at h2
      omega
    have hsp := S_size pre
    by_cases h128 : 128 ≤ y
    · obtain ⟨c, hc⟩ : ∃ c : UInt8, c = (y % 128 + 128).toUInt8 := ⟨_, rfl⟩
      have HS2 : Hid (Lib.uvarint x = (pre ++ [c]) ++ Lib.uvarint (y / 128)) := by
        show _ = _
        rw [HS.out, Lib.uvarint_big h128, hc]
        simp
      have hcv := conv_one wr (128 + (y : Int) % 128) c (by rw [hc, Lib.toUInt8_toNat (by omega)]; omega)
      have hsc := S_size [c]
      simp only [List.length_singleton] at hsc
      have hap := S_append pre [c]
      clear hc HS
      go_wp2
      refine ⟨⟨y / 128, pre ++ [c], by go_num, by omega, rfl, HS2, hbel.alloc hbel.size _⟩, by simp [intOf]; omega⟩
    · obtain ⟨c, hc⟩ : ∃ c : UInt8, c = y.toUInt8 := ⟨_, rfl⟩
      have HS2 : Hid (Lib.uvarint x = pre ++ [c]) := by
        show _ = _
        rw [HS.out, Lib.uvarint_small (by omega), hc]
      have hcv := conv_one wr (y : Int) c (by rw [hc, Lib.toUInt8_toNat (by omega)])
      have hsc := S_size [c]
      simp only [List.length_singleton] at hsc
      have hap := S_append pre [c]
      clear hc HS
      go_wp2
      go_ret
      exact ⟨by rw [HS2.out]; rfl, hbel.alloc hbel.size _⟩

theorem refUint_int (m : Int) (n : Nat) (hm : (n : Int) = m) (hn : n < 18446744073709551616) (w : World) :
    Calls Try.prog 44 #[.int .u64 m] w fun e w' => e = .returned (.string (S (Lib.uvarint n))) ∧ Below w.heap.size w w' := by
  subst hm
  exact refUint_any n hn w

set_option maxHeartbeats 400000 in
theorem refInt_any (v : Int) (h1 : -9223372036854775808 ≤ v) (h2 : v ≤ 9223372036854775807) (w : World) :
    Calls Try.prog 45 #[.int .i64 v] w fun e w' => e = .returned (.string (S (Lib.uvarint (Lib.zigzag v)))) ∧ Below w.heap.size w w' := by
  have hz := Lib.zigzag_lt h1 h2
  obtain ⟨n, hn⟩ : ∃ n, n = Lib.zigzag v := ⟨_, rfl⟩
  by_cases hneg : v < 0
  · have hn2 : (n : Int) = -2 * v - 1 := by rw [hn]; unfold Lib.zigzag; rw [if_neg (by omega)]; omega
    rw [← hn] at hz ⊢
    clear hn
    go_enter Try.func45, Try.ntmps45
    go_wp2_with fail
    refine (refUint_int _ n (by omega) hz _).mono ?_
    rintro e w1 ⟨rfl, hb⟩
    go_wp2
    go_ret
    exact ⟨rfl, hb⟩
  · have hn2 : (n : Int) = 2 * v := by rw [hn]; unfold Lib.zigzag; rw [if_pos (by omega)]; omega
    rw [← hn] at hz ⊢
    clear hn
    go_enter Try.func45, Try.ntmps45
    go_wp2_with fail
    refine (refUint_int _ n (by omega) hz _).mono ?_
    rintro e w1 ⟨rfl, hb⟩
    go_wp2
    go_ret
    exact ⟨rfl, hb⟩

set_option maxHeartbeats 400000 in
theorem refText_any (s : List UInt8) (hs : s.length ≤ 140737488355328) (w : World) :
    Calls Try.prog 46 #[.string (S s)] w fun e w' => e = .returned (.string (S (txt s))) ∧ Below w.heap.size w w' := by
  have hss := S_size s
  have hlt : s.length < 18446744073709551616 := by omega
  have hul := Lib.uvarint_length64 hlt
  have hsu := S_size (Lib.uvarint s.length)
  have hap : S (Lib.uvarint s.length) ++ S s = S (txt s) := S_append _ _
  go_enter Try.func46, Try.ntmps46
  go_wp2_with fail
  refine (refUint_any s.length hlt _).mono ?_
  rintro e w1 ⟨rfl, hb⟩
  go_wp2
  go_ret
  exact ⟨rfl, hb⟩

end Go.Proofs.Ytippnkendoghpaa

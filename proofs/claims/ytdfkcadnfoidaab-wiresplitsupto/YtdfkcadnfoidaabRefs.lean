/-
  Contracts of the document's answer for what is written (wherryref01.Uint, Int, Text, List): the same bytes as those of package wire's contracts; nothing that was there before the call is changed.
-/
import Derived.Test.YtdfkcadnfoidaabWList
import Derived.Test.YtdfkcadnfoidaabMarked
namespace Go.Proofs.Ytdfkcadnfoidaab
open Go.RowKit

theorem conv_one (W : World) (v : Int) (c : UInt8) (hv : (c.toNat : Int) = v) :
    (convert 46 9 (.slice (some ⟨W.heap.size, 0, none⟩) 1 1)).run Try.prog (W.alloc (.cells #[.int .u8 v] 5)) = .ok (.string (S [c])) (W.alloc (.cells #[.int .u8 v] 5)) := by
  refine run_convert_bytes_back _ 46 9 5 ⟨W.heap.size, 0, none⟩ 1 [c] Try.underlying46 Try.underlying5 Try.underlying9 (fun j hj => ?_)
  have hj0 : j = 0 := by simpa using hj
  subst hj0
  rw [Addr.add_lit, World.cell?_alloc_at _ _ _ _ (by simp)]
  simp [hv]

theorem S_append (a b : List UInt8) : S a ++ S b = S (a ++ b) := by
  apply ByteArray.ext
  simp [S]

set_option maxHeartbeats 1000000 in
set_option maxRecDepth 100000 in
theorem refUint_any (x : Nat) (hx : x < 18446744073709551616) (w : World) :
    Calls Try.prog 36 #[.int .u64 (x : Int)] w fun e w' => e = .returned (.string (S (Lib.uvarint x))) ∧ Below w.heap.size w w' := by
  go_enter Try.func36, Try.ntmps36
  go_wp2
  go_loopw [0, 3] (fun vx vs wr => ∃ (y : Nat) (pre : List UInt8), vx = .int .u64 (y : Int) ∧ y ≤ x ∧ vs = .string (S pre) ∧ Hid (Lib.uvarint x = pre ++ Lib.uvarint y) ∧ Below w.heap.size w wr)
    (fun vx _ _ => (intOf vx).toNat)
  case atStart => exact ⟨x, [], rfl, Nat.le_refl _, rfl, rfl, Below.refl _ _⟩
  case round =>
    obtain ⟨y, pre, rfl, hy, rfl, HS, hbel⟩ := hrel
    have hpl : pre.length + (Lib.uvarint y).length ≤ 10 := by
      have h2 := congrArg List.length HS.out
      have h3 := Lib.uvarint_length64 hx
      rw [List.length_append] at h2
      omega
    have hsp := S_size pre
    by_cases h128 : 128 ≤ y
    · obtain ⟨c, hc⟩ : ∃ c : UInt8, c = (y % 128 + 128).toUInt8 := ⟨_, rfl⟩
      have HS2 : Hid (Lib.uvarint x = (pre ++ [c]) ++ Lib.uvarint (y / 128)) := by
        show _ = _
        rw [HS.out, Lib.uvarint_big h128, hc]
        simp
      have hcv := conv_one wr (128 + (y : Int) % 128) c (by rw [hc, Lib.toUInt8_toNat (by omega)]; omega)
      have hsc := S_size [c]
      simp only [List.length_singleton] at hsc
      have hap := S_append pre [c]
      clear hc HS
      go_wp2
      refine ⟨⟨y / 128, pre ++ [c], by go_num, by omega, rfl, HS2, hbel.alloc hbel.size _⟩, by simp [intOf]; omega⟩
    · obtain ⟨c, hc⟩ : ∃ c : UInt8, c = y.toUInt8 := ⟨_, rfl⟩
      have HS2 : Hid (Lib.uvarint x = pre ++ [c]) := by
        show _ = _
        rw [HS.out, Lib.uvarint_small (by omega), hc]
      have hcv := conv_one wr (y : Int) c (by rw [hc, Lib.toUInt8_toNat (by omega)])
      have hsc := S_size [c]
      simp only [List.length_singleton] at hsc
      have hap := S_append pre [c]
      clear hc HS
      go_wp2
      go_ret
      exact ⟨by rw [HS2.out]; rfl, hbel.alloc hbel.size _⟩

theorem refUint_int (m : Int) (n : Nat) (hm : (n : Int) = m) (hn : n < 18446744073709551616) (w : World) :
    Calls Try.prog 36 #[.int .u64 m] w fun e w' => e = .returned (.string (S (Lib.uvarint n))) ∧ Below w.heap.size w w' := by
  subst hm
  exact refUint_any n hn w

set_option maxHeartbeats 400000 in
theorem refText_any (s : List UInt8) (hs : s.length ≤ 140737488355328) (w : World) :
    Calls Try.prog 37 #[.string (S s)] w fun e w' => e = .returned (.string (S (txt s))) ∧ Below w.heap.size w w' := by
  have hss := S_size s
  have hlt : s.length < 18446744073709551616 := by omega
  have hul := Lib.uvarint_length64 hlt
  have hsu := S_size (Lib.uvarint s.length)
  have hap : S (Lib.uvarint s.length) ++ S s = S (txt s) := S_append _ _
  go_enter Try.func37, Try.ntmps37
  go_wp2_with fail
  refine (refUint_any s.length hlt _).mono ?_
  rintro e w1 ⟨rfl, hb⟩
  go_wp2
  go_ret
  exact ⟨rfl, hb⟩

set_option maxHeartbeats 2000000 in
set_option maxRecDepth 100000 in
theorem refList_any {v : Value} {ls : List (List UInt8)} {w : World} (hv : Strs w v ls) (hlim : (lst ls).length + 10 ≤ 140737488355328) :
    Calls Try.prog 19 #[v] w fun e w' => e = .returned (.string (S (lst ls))) ∧ Below w.heap.size w w' := by
  obtain ⟨i0, hi, hz0, hz1, hz2⟩ := info_parts infoByte
  have hcl := cat_len ls
  have hll : (lst ls).length = (Lib.uvarint ls.length).length + (cat ls).length := by simp [lst]
  have hlt : ls.length < 18446744073709551616 := by omega
  obtain ⟨a, cap, rfl, hv⟩ := hv
  have hss := S_size (Lib.uvarint ls.length)
  go_enter Try.func19, Try.ntmps19
  go_wp2_with fail
  refine (refUint_any ls.length hlt _).mono ?_
  rintro e w1 ⟨rfl, hb1⟩
  have hcv := run_bytes_of_string (P := Try.prog) w1 9 46 5 (S (Lib.uvarint ls.length)) Try.underlying9 Try.underlying46 Try.underlying5
  rw [hss] at hcv
  have hM := bytes_M w1 5 (Lib.uvarint ls.length) (by unfold maxLen; omega)
  obtain ⟨O, hO⟩ : ∃ O, O = (Obj.cells (bytesRow (S (Lib.uvarint ls.length)) (grownCap w1 (Lib.uvarint ls.length).length 0 5)) 5 ((bytesRow (S (Lib.uvarint ls.length)) (grownCap w1 (Lib.uvarint ls.length).length 0 5)).size, (bytesRow (S (Lib.uvarint ls.length)) (grownCap w1 (Lib.uvarint ls.length).length 0 5)).size + 1)) := ⟨_, rfl⟩
  change ownsM (w1.drew.alloc (Obj.cells (bytesRow (S (Lib.uvarint ls.length)) (grownCap w1 (Lib.uvarint ls.length).length 0 5)) 5 ((bytesRow (S (Lib.uvarint ls.length)) (grownCap w1 (Lib.uvarint ls.length).length 0 5)).size, (bytesRow (S (Lib.uvarint ls.length)) (grownCap w1 (Lib.uvarint ls.length).length 0 5)).size + 1))) _ _ _ _ _ at hM
  rw [← hO] at hM hcv
  generalize grownCap w1 (Lib.uvarint ls.length).length 0 5 = gc at hM hcv
  clear hO
  go_wp2_with fail
  go_loopw [3, 4] (fun vb vi wr => ∃ k : Nat, k ≤ ls.length ∧ vi = .int .i64 (k : Int) ∧ ownsM wr w.heap.size 5 vb ((Lib.uvarint ls.length).length + (cat (ls.take k)).length) (Lib.byteCells (Lib.uvarint ls.length ++ cat (ls.take k))) ∧ Below w.heap.size w wr)
    (fun _ vi _ => ls.length - (intOf vi).toNat)
  case atStart =>
    refine ⟨0, Nat.zero_le _, rfl, ?_, (hb1.alloc hb1.size _).drew⟩
    have h0 : cat (ls.take 0) = [] := rfl
    rw [h0, List.append_nil, List.length_nil, Nat.add_zero]
    exact hM.mono hb1.size
  case round =>
    obtain ⟨k, hk, rfl, hown, hbel⟩ := hrel
    clear hM hb1 hcv
    by_cases hkl : k < ls.length
    · rcases hv with hv | ⟨b, off, rfl, hlt2, hc⟩
      · rw [hv] at hkl; simp at hkl
      · have hck := (hbel.cell (p := ⟨b, off + k, none⟩) hlt2).trans (hc k hkl)
        have hsn := cat_snoc ls k hkl
        have hle := cat_take_le ls (k + 1)
        rw [hsn] at hle
        have htl := txt_length (ls.getD k [])
        have hge := txt_ge (ls.getD k [])
        have hsz := hbel.size
        generalize ls.getD k [] = s at *
        have HS : Hid (cat (ls.take (k + 1)) = cat (ls.take k) ++ txt s) := hsn
        rw [List.length_append] at hle
        have hst := S_size (txt s)
        clear hsn hc
        go_wp2_with fail
        refine (refText_any s (by omega) _).mono ?_
        rintro e w2 ⟨rfl, hb2⟩
        have hown2 := hown.below hb2
        have hbel2 := hbel.trans (hb2.mono hsz)
        have hsz2 := hbel2.size
        clear hown hb2 hbel
        go_wp2_with (at_builtin; refine wpList_append_M rfl _ _ 46 9 rfl w.heap.size 5 i0 Try.underlying46 Try.underlying9 hi hz0 hz1 hz2 _ _ _ rfl hown2 (S (txt s)) rfl (by omega) hsz2 ?_)
        intro v3 w3 hown3 hb3
        have hbel3 := hbel2.trans hb3
        clear hown2 hb3 hbel2
        go_wp2
        refine ⟨⟨k + 1, by omega, by go_num, ?_, hbel3⟩, by simp [intOf]; omega⟩
        rw [HS.out, List.length_append, ← List.append_assoc, Lib.byteCells_append _ (txt s), ← Nat.add_assoc, htl]
        rw [Lib.strCells_eq, S_list] at hown3
        exact hown3
    · have hkk : k = ls.length := by omega
      subst hkk
      obtain ⟨g, cp, rfl, _, _, hcs⟩ := hown.cells
      rw [List.take_length] at hcs
      have hlen : (Lib.uvarint ls.length ++ cat ls).length = (Lib.uvarint ls.length).length + (cat ls).length := by simp
      have hcv := run_convert_bytes_back (P := Try.prog) wr 46 9 5 ⟨g, 0, none⟩ cp (Lib.uvarint ls.length ++ cat ls) Try.underlying46 Try.underlying5 Try.underlying9
        (fun j hj => hcs j _ (by simp only [Lib.byteCells, List.getElem?_map]; rw [List.getElem?_eq_getElem hj]; rfl))
      rw [hlen] at hcv
      change _ = Result.ok (Value.string (S (lst ls))) wr at hcv
      clear hlen hown hll hcs
      go_wp2
      go_ret
      exact ⟨rfl, hbel⟩

end Go.Proofs.Ytdfkcadnfoidaab

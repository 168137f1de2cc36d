/-
  Contracts of package wire's reader for texts (takeCount, takeText, Text): each answers as a function on lists of bytes says; but for the reader's own block nothing that was there before the call is changed.
-/
import Derived.Test.YtdfkcadnfoidaaaReads
import Derived.Lib.Strings
import Derived.Lib.BufferWrite
import Derived.Lib.UnsafeStr
import Derived.Lib.Hide
import Derived.Laws.MakeOwn
namespace Go.Proofs.Ytdfkcadnfoidaaa
open Go.RowKit

/-- A COUNT of at most 'most': the number, what is left, why not -/
def cnt (most : Int) (l : List UInt8) : Nat × List UInt8 × Nat :=
  if (numb 0 0 l).2.2 ≠ 0 then (0, (numb 0 0 l).2.1, (numb 0 0 l).2.2)
  else if most < ((numb 0 0 l).1 : Int) then (0, (numb 0 0 l).2.1, 13)
  else ((numb 0 0 l).1, (numb 0 0 l).2.1, 0)

set_option maxHeartbeats 400000 in
theorem takeCount_res {b e n er : Nat} {most : Int} {l rest : List UInt8} {w : World} (h : Rd w b l e) (hm : most ≤ 9223372036854775807) (hres : Hid (cnt most l = (n, rest, er))) :
    Calls Try.prog 52 #[.pointer (some ⟨b, 0, none⟩), .int .i64 most] w fun r w' => r = .returned (.tuple #[.int .u64 (n : Int), .int .i64 (er : Int)]) ∧ Rd w' b rest e ∧ But b w w' := by
  obtain ⟨v, t, f, hn⟩ : ∃ v t f, numb 0 0 l = (v, t, f) := ⟨_, _, _, rfl⟩
  have hc := hres.out
  simp only [cnt, hn] at hc
  have HN : Hid (numb 0 0 l = (v, t, f)) := hn
  clear hres hn
  by_cases hf : f = 0
  · subst hf
    rw [if_neg (by simp)] at hc
    by_cases hneg : most < 0
    · rw [if_pos (by omega)] at hc
      simp only [Prod.mk.injEq] at hc
      obtain ⟨rfl, rfl, rfl⟩ := hc
      go_enter Try.func52, Try.ntmps52
      go_wp2_with (first | (go_at_call 38; refine (takeUint_res h HN).mono ?_; rintro r w' ⟨rfl, hr, hb⟩))
      go_ret2
      exact ⟨rfl, hr, hb⟩
    · by_cases hgt : most < (v : Int)
      · rw [if_pos hgt] at hc
        simp only [Prod.mk.injEq] at hc
        obtain ⟨rfl, rfl, rfl⟩ := hc
        go_enter Try.func52, Try.ntmps52
        go_wp2_with (first | (go_at_call 38; refine (takeUint_res h HN).mono ?_; rintro r w' ⟨rfl, hr, hb⟩))
        go_ret2
        exact ⟨rfl, hr, hb⟩
      · rw [if_neg hgt] at hc
        simp only [Prod.mk.injEq] at hc
        obtain ⟨rfl, rfl, rfl⟩ := hc
        go_enter Try.func52, Try.ntmps52
        go_wp2_with (first | (go_at_call 38; refine (takeUint_res h HN).mono ?_; rintro r w' ⟨rfl, hr, hb⟩))
        go_ret2
        exact ⟨rfl, hr, hb⟩
  · rw [if_pos hf] at hc
    simp only [Prod.mk.injEq] at hc
    obtain ⟨rfl, rfl, rfl⟩ := hc
    have hbe : (((f : Nat) : Int) != 0) = true := by rw [bne_iff_ne]; omega
    clear hf
    go_enter Try.func52, Try.ntmps52
    go_wp2_with (first | (go_at_call 38; refine (takeUint_res h HN).mono ?_; rintro r w' ⟨rfl, hr, hb⟩))
    go_ret2
    exact ⟨rfl, hr, hb⟩

set_option maxHeartbeats 4000000 in
set_option maxRecDepth 100000 in
/-- stringslite.Clone: the same bytes; of what was there nothing is changed -/
theorem cloneLite (s : ByteArray) (w : World) (hlim : s.size ≤ 281474976710656) :
    Calls Try.prog 54 #[.string s] w fun e w' => e = .returned (.string s) ∧ Below w.heap.size w w' := by
  by_cases h0 : s.size = 0
  · have hs : s = ⟨#[]⟩ := by
      apply ByteArray.ext
      exact Array.eq_empty_of_size_eq_zero h0
    subst hs
    go_enter Try.func54, Try.ntmps54
    go_wp2
    go_ret
    exact ⟨rfl, Below.refl _ _⟩
  · obtain ⟨i0, hi, hz0, hz1, hz2⟩ := info_parts infoByte
    have hinfo : (Try.prog.info? 5).map (·.size) = some 1 := by rw [hi]; simp [hz1]
    have hco : Try.prog.cellsOf 5 = 1 := by simp [Program.cellsOf, hi, hz1]
    obtain ⟨M, hM⟩ : ∃ M, M = madeCells (Value.int .u8 0).cells (((s.size : Nat) : Int).toNat * i0.size) := ⟨_, rfl⟩
    have hMs : M.size = s.size := by rw [hM, size_madeCells, hz1]; simp
    have hmk : ∀ W : World, (Instr.makeSlice 54 (.int .i64 (s.size : Int)) (.int .i64 (s.size : Int))).run Try.prog W = .ok (.slice (some ⟨W.heap.size, 0, none⟩) s.size s.size) (W.alloc (.cells M 5)) := fun W => by
      have h := run_make (P := Try.prog) W 54 5 i0 (.int .u8 0) Try.underlying54 hi hz0 .i64 .i64 (s.size : Int) (s.size : Int) (by omega) (by omega) (by rw [hz2]; omega) (by omega)
      rw [← hM] at h
      simpa using h
    clear hM
    have hcp := Lib.run_copy_row_string (P := Try.prog) (w.alloc (.cells M 5)) 54 9 3 5 w.heap.size 0 s.size s.size s M 5 Try.underlying54 hinfo (heap_alloc_new w _) (Nat.le_refl _) (by omega)
    obtain ⟨Y, hY⟩ : ∃ Y, Y = (M.toList.take 0 ++ Lib.byteCells s.data.toList ++ M.toList.drop (0 + s.size)).toArray := ⟨_, rfl⟩
    rw [← hY] at hcp
    have hYl : Y.toList = Lib.byteCells s.data.toList := by
      rw [hY, List.toList_toArray, List.take_zero, List.nil_append, List.drop_of_length_le (by rw [Array.length_toList]; omega), List.append_nil]
    have hYs : Y.size = s.size := by rw [← Array.length_toList, hYl, Lib.byteCells_length, ← Lib.size_eq]
    have hgY : ((w.alloc (.cells M 5)).setRow w.heap.size Y).heap[w.heap.size]? = some (.cells Y 5 (0, 0)) := setRow_heap _ _ M _ 5 (0, 0) (heap_alloc_new w _)
    have hne : s.data.toList ≠ [] := fun e => h0 (by rw [Lib.size_eq, e]; rfl)
    have hUS := Lib.run_unsafeString_row (P := Try.prog) ((w.alloc (.cells M 5)).setRow w.heap.size Y) 83 3 9 5 Try.underlying83 hco w.heap.size Y.size (by unfold World.shape?; rw [hgY]) s.data.toList hne (by rw [← Lib.size_eq]; omega) (by rw [← Lib.size_eq]; omega)
      (fun j x hx => Lib.cells_of_row hgY Y.size j _ (by rw [List.take_of_length_le (by rw [Array.length_toList]; exact Nat.le_refl _), hYl]; simp [Lib.byteCells, hx]))
    rw [← Lib.size_eq] at hUS
    clear hY
    go_enter Try.func54, Try.ntmps54
    go_wp2
    go_ret
    have hb1 : Below w.heap.size w (w.alloc (.cells M 5)) := (Below.refl _ w).alloc (Nat.le_refl _) _
    have hb2 : Below w.heap.size (w.alloc (.cells M 5)) ((w.alloc (.cells M 5)).setRow w.heap.size Y) := ⟨rfl, rfl, rfl, by simp, fun k hk => setRow_other _ _ _ _ (by omega)⟩
    exact ⟨rfl, Lib.below_freeze (hb1.trans hb2) (p := ⟨w.heap.size, 0, none⟩) (Nat.le_refl _) _⟩

set_option maxHeartbeats 400000 in
theorem clone_any (s : ByteArray) (w : World) (hlim : s.size ≤ 281474976710656) :
    Calls Try.prog 53 #[.string s] w fun e w' => e = .returned (.string s) ∧ Below w.heap.size w w' := by
  go_enter Try.func53, Try.ntmps53
  go_wp2_with fail
  refine (cloneLite s _ hlim).mono ?_
  rintro r w' ⟨rfl, hb⟩
  go_wp2
  go_ret
  exact ⟨rfl, hb⟩

/-- A TEXT of at most 'most' bytes: the text, what is left, why not -/
def tex (most : Int) (l : List UInt8) : List UInt8 × List UInt8 × Nat :=
  if (cnt most l).2.2 ≠ 0 then ([], (cnt most l).2.1, (cnt most l).2.2)
  else if (cnt most l).2.1.length < (cnt most l).1 then ([], (cnt most l).2.1, 2)
  else ((cnt most l).2.1.take (cnt most l).1, (cnt most l).2.1.drop (cnt most l).1, 0)

theorem S_take (l : List UInt8) (n : Nat) : (S l).extract 0 n = S (l.take n) := by
  apply ByteArray.ext
  rw [ByteArray.data_extract]
  simp [S]
theorem S_drop (l : List UInt8) (n : Nat) : (S l).extract n l.length = S (l.drop n) := by
  apply ByteArray.ext
  rw [ByteArray.data_extract]
  simp only [S, List.extract_toArray, List.extract_eq_take_drop]
  rw [List.take_of_length_le (by simp)]

theorem numb_le : ∀ (l : List UInt8) (i acc : Nat), (numb i acc l).2.1.length ≤ l.length
  | [], _, _ => by simp [numb]
  | c :: t, i, acc => by
    have ih := numb_le t (i + 1) (acc + c.toNat % 128 * 2 ^ (i * 7))
    rw [numb]
    split
    · simp
    · split
      · simp; omega
      · split <;> simp
theorem cnt_le (most : Int) (l : List UInt8) : (cnt most l).2.1.length ≤ l.length := by
  have := numb_le l 0 0
  unfold cnt
  split
  · exact this
  · split <;> exact this
theorem tex_le (most : Int) (l : List UInt8) : (tex most l).2.1.length ≤ l.length := by
  have := cnt_le most l
  unfold tex
  split
  · exact this
  · split
    · exact this
    · simp; omega

set_option maxHeartbeats 1000000 in
theorem takeText_res {b e er : Nat} {most : Int} {s l rest : List UInt8} {w : World} (h : Rd w b l e) (hl : l.length ≤ 140737488355328) (hm : most ≤ 9223372036854775807) (hres : Hid (tex most l = (s, rest, er))) :
    Calls Try.prog 46 #[.pointer (some ⟨b, 0, none⟩), .int .i64 most] w fun r w' => r = .returned (.tuple #[.string (S s), .int .i64 (er : Int)]) ∧ Rd w' b rest e ∧ But b w w' := by
  obtain ⟨n, t, f, hn⟩ : ∃ n t f, cnt most l = (n, t, f) := ⟨_, _, _, rfl⟩
  have hc := hres.out
  simp only [tex, hn] at hc
  have htl := cnt_le most l
  rw [hn] at htl
  replace htl : t.length ≤ 140737488355328 := Nat.le_trans htl hl
  have HN : Hid (cnt most l = (n, t, f)) := hn
  have hss := S_size t
  clear hres hn hl
  by_cases hf : f = 0
  · subst hf
    rw [if_neg (by simp)] at hc
    by_cases hlt : t.length < n
    · rw [if_pos hlt] at hc
      simp only [Prod.mk.injEq] at hc
      obtain ⟨rfl, rfl, rfl⟩ := hc
      go_enter Try.func46, Try.ntmps46
      go_wp2_with (first | (go_at_call 52; refine (takeCount_res h hm HN).mono ?_; rintro r w' ⟨rfl, hr, hb⟩; have c0 := hr.rest))
      go_ret2
      exact ⟨rfl, hr, hb⟩
    · rw [if_neg hlt] at hc
      simp only [Prod.mk.injEq] at hc
      obtain ⟨rfl, rfl, rfl⟩ := hc
      have hx1 := S_take t n
      have hx2 := S_drop t n
      have hcl : (S (t.take n)).size ≤ 281474976710656 := by rw [S_size, List.length_take]; omega
      go_enter Try.func46, Try.ntmps46
      go_wp2_with (first
        | (go_at_call 52; refine (takeCount_res h hm HN).mono ?_; rintro r w' ⟨rfl, hr, hb⟩; have c0 := hr.rest)
        | (go_at_call 53; refine (clone_any (S (t.take n)) _ hcl).mono ?_; rintro r w'' ⟨rfl, hb2⟩; have hr2 := hr.below hb2 hr.lt; have c2 := hr2.rest; have f2 := hr2.fr))
      go_ret2
      exact ⟨rfl, hr2.set0 _, (hb.trans (But.of_below hb2)).setCell _ _⟩
  · rw [if_pos hf] at hc
    simp only [Prod.mk.injEq] at hc
    obtain ⟨rfl, rfl, rfl⟩ := hc
    have hbe : (((f : Nat) : Int) != 0) = true := by rw [bne_iff_ne]; omega
    clear hf
    go_enter Try.func46, Try.ntmps46
    go_wp2_with (first | (go_at_call 52; refine (takeCount_res h hm HN).mono ?_; rintro r w' ⟨rfl, hr, hb⟩; have c0 := hr.rest))
    go_ret2
    exact ⟨rfl, hr, hb⟩

end Go.Proofs.Ytdfkcadnfoidaaa

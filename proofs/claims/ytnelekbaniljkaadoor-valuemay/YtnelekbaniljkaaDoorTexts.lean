/-
  Contracts of package wire's reader for texts (takeCount, takeText, Text): each answers as a function on lists of bytes says; but for the reader's own block nothing that was there before the call is changed.
-/
import Derived.Test.YtnelekbaniljkaaDoorReads
import Derived.Shelf.Pu.Clone
namespace Go.Proofs.YtnelekbaniljkaaDoor
open Go.RowKit

/-- A COUNT of at most 'most': the number, what is left, why not -/
def cnt (most : Int) (l : List UInt8) : Nat × List UInt8 × Nat :=
  if (numb 0 0 l).2.2 ≠ 0 then (0, (numb 0 0 l).2.1, (numb 0 0 l).2.2)
  else if most < ((numb 0 0 l).1 : Int) then (0, (numb 0 0 l).2.1, 13)
  else ((numb 0 0 l).1, (numb 0 0 l).2.1, 0)

set_option maxHeartbeats 400000 in
theorem takeCount_res {b e n er : Nat} {most : Int} {l rest : List UInt8} {w : World} (h : Rd w b l e) (hm : most ≤ 9223372036854775807) (hres : Hid (cnt most l = (n, rest, er))) :
    Calls Tryd.prog 77 #[.pointer (some ⟨b, 0, none⟩), .int .i64 most] w fun r w' => r = .returned (.tuple #[.int .u64 (n : Int), .int .i64 (er : Int)]) ∧ Rd w' b rest e ∧ But b w w' := by
  obtain ⟨v, t, f, hn⟩ : ∃ v t f, numb 0 0 l = (v, t, f) := ⟨_, _, _, rfl⟩
  have hc := hres.out
  simp only [cnt, hn] at hc
  have HN : Hid (numb 0 0 l = (v, t, f)) := hn
  clear hres hn
  by_cases hf : f = 0
  · subst hf
    rw [if_neg (by simp)] at hc
    by_cases hneg : most < 0
    · rw [if_pos (by omega)] at hc
      simp only [Prod.mk.injEq] at hc
      obtain ⟨rfl, rfl, rfl⟩ := hc
      go_enter Tryd.func77, Tryd.ntmps77
      go_wp2_with (first | (go_at_call 68; refine (takeUint_res h HN).mono ?_; rintro r w' ⟨rfl, hr, hb⟩))
      go_ret2
      exact ⟨rfl, hr, hb⟩
    · by_cases hgt : most < (v : Int)
      · rw [if_pos hgt] at hc
        simp only [Prod.mk.injEq] at hc
        obtain ⟨rfl, rfl, rfl⟩ := hc
        go_enter Tryd.func77, Tryd.ntmps77
        go_wp2_with (first | (go_at_call 68; refine (takeUint_res h HN).mono ?_; rintro r w' ⟨rfl, hr, hb⟩))
        go_ret2
        exact ⟨rfl, hr, hb⟩
      · rw [if_neg hgt] at hc
        simp only [Prod.mk.injEq] at hc
        obtain ⟨rfl, rfl, rfl⟩ := hc
        go_enter Tryd.func77, Tryd.ntmps77
        go_wp2_with (first | (go_at_call 68; refine (takeUint_res h HN).mono ?_; rintro r w' ⟨rfl, hr, hb⟩))
        go_ret2
        exact ⟨rfl, hr, hb⟩
  · rw [if_pos hf] at hc
    simp only [Prod.mk.injEq] at hc
    obtain ⟨rfl, rfl, rfl⟩ := hc
    have hbe : (((f : Nat) : Int) != 0) = true := by rw [bne_iff_ne]; omega
    clear hf
    go_enter Tryd.func77, Tryd.ntmps77
    go_wp2_with (first | (go_at_call 68; refine (takeUint_res h HN).mono ?_; rintro r w' ⟨rfl, hr, hb⟩))
    go_ret2
    exact ⟨rfl, hr, hb⟩

/-- where the library's numbers of stringslite.Clone and its types lie in this program -/
def cloneRen : Shelf.Ren := ⟨fun _ => 86, fun
  | 0 => 0
  | 3 => 3
  | 4 => 4
  | 5 => 5
  | 9 => 9
  | 37 => 53
  | _ => 88, fun x => x⟩

theorem cloneLays : LaysPu.n25 Tryd.prog cloneRen where
  mixed := by kernel_rfl
  f25 := Tryd.func86.trans (by kernel_rfl)
  t0 := Tryd.underlying0
  a0 := Tryd.isAgg0
  z0 := Tryd.sizeOf0
  v0 := Tryd.zeroValue0
  i0 := by kernel_rfl
  t3 := Tryd.underlying3
  a3 := Tryd.isAgg3
  z3 := Tryd.sizeOf3
  v3 := Tryd.zeroValue3
  i3 := by kernel_rfl
  t4 := Tryd.underlying4
  a4 := Tryd.isAgg4
  z4 := Tryd.sizeOf4
  v4 := Tryd.zeroValue4
  i4 := by kernel_rfl
  t5 := Tryd.underlying5
  a5 := Tryd.isAgg5
  z5 := Tryd.sizeOf5
  v5 := Tryd.zeroValue5
  i5 := by kernel_rfl
  t9 := Tryd.underlying9
  a9 := Tryd.isAgg9
  z9 := Tryd.sizeOf9
  v9 := Tryd.zeroValue9
  i9 := by kernel_rfl
  t37 := Tryd.underlying53
  a37 := Tryd.isAgg53
  z37 := Tryd.sizeOf53
  v37 := Tryd.zeroValue53
  i37 := by kernel_rfl
  t47 := Tryd.underlying88
  a47 := Tryd.isAgg88
  z47 := Tryd.sizeOf88
  v47 := Tryd.zeroValue88
  i47 := by kernel_rfl

/-- stringslite.Clone, by the library's contract: the same bytes; of what was there nothing is changed -/
theorem cloneLite (s : ByteArray) (w : World) (hlim : s.size ≤ 281474976710656) :
    Calls Tryd.prog 86 #[.string s] w fun e w' => e = .returned (.string s) ∧ Below w.heap.size w w' := AnyPu.stringslite_Clone cloneLays s w hlim

set_option maxHeartbeats 400000 in
theorem clone_any (s : ByteArray) (w : World) (hlim : s.size ≤ 281474976710656) :
    Calls Tryd.prog 78 #[.string s] w fun e w' => e = .returned (.string s) ∧ Below w.heap.size w w' := by
  go_enter Tryd.func78, Tryd.ntmps78
  go_wp2_with fail
  refine (cloneLite s _ hlim).mono ?_
  rintro r w' ⟨rfl, hb⟩
  go_wp2
  go_ret
  exact ⟨rfl, hb⟩

/-- A TEXT of at most 'most' bytes: the text, what is left, why not -/
def tex (most : Int) (l : List UInt8) : List UInt8 × List UInt8 × Nat :=
  if (cnt most l).2.2 ≠ 0 then ([], (cnt most l).2.1, (cnt most l).2.2)
  else if (cnt most l).2.1.length < (cnt most l).1 then ([], (cnt most l).2.1, 2)
  else ((cnt most l).2.1.take (cnt most l).1, (cnt most l).2.1.drop (cnt most l).1, 0)

theorem S_take (l : List UInt8) (n : Nat) : (S l).extract 0 n = S (l.take n) := by
  apply ByteArray.ext
  rw [ByteArray.data_extract]
  simp [S]
theorem S_drop (l : List UInt8) (n : Nat) : (S l).extract n l.length = S (l.drop n) := by
  apply ByteArray.ext
  rw [ByteArray.data_extract]
  simp only [S, List.extract_toArray, List.extract_eq_take_drop]
  rw [List.take_of_length_le (by simp)]

theorem numb_le : ∀ (l : List UInt8) (i acc : Nat), (numb i acc l).2.1.length ≤ l.length
  | [], _, _ => by simp [numb]
  | c :: t, i, acc => by
    have ih := numb_le t (i + 1) (acc + c.toNat % 128 * 2 ^ (i * 7))
    rw [numb]
    split
    · simp
    · split
      · simp; omega
      · split <;> simp
theorem cnt_le (most : Int) (l : List UInt8) : (cnt most l).2.1.length ≤ l.length := by
  have := numb_le l 0 0
  unfold cnt
  split
  · exact this
  · split <;> exact this
theorem tex_le (most : Int) (l : List UInt8) : (tex most l).2.1.length ≤ l.length := by
  have := cnt_le most l
  unfold tex
  split
  · exact this
  · split
    · exact this
    · simp; omega

theorem cnt_most (most : Int) (l : List UInt8) : (cnt most l).1 = 0 ∨ ((cnt most l).1 : Int) ≤ most := by
  unfold cnt
  split
  · exact .inl rfl
  · split
    · exact .inl rfl
    · exact .inr (by simp only; omega)

set_option maxHeartbeats 1000000 in
theorem takeText_res {b e er : Nat} {most : Int} {s l rest : List UInt8} {w : World} (h : Rd w b l e) (hl : l.length ≤ 281474976710656 ∨ (most ≤ 281474976710656 ∧ l.length ≤ 9223372036854775800)) (hm : most ≤ 9223372036854775807) (hres : Hid (tex most l = (s, rest, er))) :
    Calls Tryd.prog 66 #[.pointer (some ⟨b, 0, none⟩), .int .i64 most] w fun r w' => r = .returned (.tuple #[.string (S s), .int .i64 (er : Int)]) ∧ Rd w' b rest e ∧ But b w w' := by
  obtain ⟨n, t, f, hn⟩ : ∃ n t f, cnt most l = (n, t, f) := ⟨_, _, _, rfl⟩
  have hc := hres.out
  simp only [tex, hn] at hc
  have htl := cnt_le most l
  rw [hn] at htl
  have hnm : n = 0 ∨ (n : Int) ≤ most := by
    have := cnt_most most l
    rw [hn] at this
    exact this
  replace htl : t.length ≤ 9223372036854775800 ∧ (t.length ≤ 281474976710656 ∨ (n : Int) ≤ 281474976710656) := by simp only at htl; omega
  have HN : Hid (cnt most l = (n, t, f)) := hn
  have hss := S_size t
  clear hres hn hl
  by_cases hf : f = 0
  · subst hf
    rw [if_neg (by simp)] at hc
    by_cases hlt : t.length < n
    · rw [if_pos hlt] at hc
      simp only [Prod.mk.injEq] at hc
      obtain ⟨rfl, rfl, rfl⟩ := hc
      go_enter Tryd.func66, Tryd.ntmps66
      go_wp2_with (first | (go_at_call 77; refine (takeCount_res h hm HN).mono ?_; rintro r w' ⟨rfl, hr, hb⟩; have c0 := hr.rest))
      go_ret2
      exact ⟨rfl, hr, hb⟩
    · rw [if_neg hlt] at hc
      simp only [Prod.mk.injEq] at hc
      obtain ⟨rfl, rfl, rfl⟩ := hc
      have hx1 := S_take t n
      have hx2 := S_drop t n
      have hcl : (S (t.take n)).size ≤ 281474976710656 := by rw [S_size, List.length_take]; omega
      go_enter Tryd.func66, Tryd.ntmps66
      go_wp2_with (first
        | (go_at_call 77; refine (takeCount_res h hm HN).mono ?_; rintro r w' ⟨rfl, hr, hb⟩; have c0 := hr.rest)
        | (go_at_call 78; refine (clone_any (S (t.take n)) _ hcl).mono ?_; rintro r w'' ⟨rfl, hb2⟩; have hr2 := hr.below hb2 hr.lt; have c2 := hr2.rest; have f2 := hr2.fr))
      go_ret2
      exact ⟨rfl, hr2.set0 _, (hb.trans (But.of_below hb2)).setCell _ _⟩
  · rw [if_pos hf] at hc
    simp only [Prod.mk.injEq] at hc
    obtain ⟨rfl, rfl, rfl⟩ := hc
    have hbe : (((f : Nat) : Int) != 0) = true := by rw [bne_iff_ne]; omega
    clear hf
    go_enter Tryd.func66, Tryd.ntmps66
    go_wp2_with (first | (go_at_call 77; refine (takeCount_res h hm HN).mono ?_; rintro r w' ⟨rfl, hr, hb⟩; have c0 := hr.rest))
    go_ret2
    exact ⟨rfl, hr, hb⟩

end Go.Proofs.YtnelekbaniljkaaDoor

/-
  Contracts of package frame's take and Take: the frame that begins some bytes, or why there is none, told by the plain function tak.
-/
import Derived.Test.YtiaeicfmdnmeeaaF5Put
import Derived.Test.YtiaeicfmdnmeeaaTextCalls
import Derived.Test.YtiaeicfmdnmeeaaRefRead
namespace Go.Proofs.Ytiaeicfmdnmeeaa
open Go.RowKit

set_option maxHeartbeats 400000 in
theorem wRead_any (l : List UInt8) (w : World) : Calls Try.prog 56 #[.string (S l)] w fun r w' => r = .returned (.pointer (some ⟨w.heap.size, 0, none⟩)) ∧ Rd w' w.heap.size l 0 ∧ Below w.heap.size w w' ∧ w'.heap.size = w.heap.size + 1 := by
  go_enter Try.func56, Try.ntmps56
  go_wp2
  go_ret
  exact ⟨rfl, ⟨by go_simp, by go_simp, by go_simp, by go_simp, by simp⟩, (Below.refl _ _).alloc (Nat.le_refl _) _, by simp⟩

/-- a piece that was not filled yet -/
structure Ze (w : World) (b : Nat) : Prop where
  c0 : w.cell? ⟨b, 0, none⟩ = some (.int .u8 0)
  c1 : w.cell? ⟨b, 1, none⟩ = some (.string ⟨#[]⟩)
  c2 : w.cell? ⟨b, 2, none⟩ = some (.int .i64 0)
  fr : ∀ o, w.frozen? ⟨b, o, none⟩ = false
  lt : b < w.heap.size
theorem Ze.below {B b : Nat} {w w' : World} (h : Ze w b) (hb : Below B w w') (hB : b < B) : Ze w' b :=
  ⟨(hb.cell (p := ⟨b, 0, none⟩) hB).trans h.c0, (hb.cell (p := ⟨b, 1, none⟩) hB).trans h.c1, (hb.cell (p := ⟨b, 2, none⟩) hB).trans h.c2, fun o => (hb.frozen (p := ⟨b, o, none⟩) hB).trans (h.fr o), Nat.lt_of_lt_of_le h.lt hb.size⟩
theorem Ze.but {b c : Nat} {w w' : World} (h : Ze w b) (hb : But c w w') (hB : b ≠ c) : Ze w' b :=
  ⟨(hb.cell (p := ⟨b, 0, none⟩) h.lt hB).trans h.c0, (hb.cell (p := ⟨b, 1, none⟩) h.lt hB).trans h.c1, (hb.cell (p := ⟨b, 2, none⟩) h.lt hB).trans h.c2, fun o => (hb.frozen (p := ⟨b, o, none⟩) h.lt hB).trans (h.fr o), Nat.lt_of_lt_of_le h.lt hb.size⟩
theorem Ze.new (w : World) (t : TypeId) : Ze (w.alloc (.cells #[.int .u8 0, .string ⟨#[]⟩, .int .i64 0] t)) w.heap.size :=
  ⟨by go_simp, by go_simp, by go_simp, fun o => by go_simp, by simp⟩
theorem Cl.but {w w' : World} {b n c : Nat} {K : IntKind} {f : Nat → Nat} (h : Cl w b n K f) (hb : But c w w') (hB : b ≠ c) : Cl w' b n K f :=
  ⟨fun j hj => (hb.cell (p := ⟨b, j, none⟩) h.lt hB).trans (h.cell j hj), fun j => (hb.frozen (p := ⟨b, j, none⟩) h.lt hB).trans (h.fro j), Nat.lt_of_lt_of_le h.lt hb.size⟩
theorem Cl.drew {w : World} {b n : Nat} {K : IntKind} {f : Nat → Nat} (h : Cl w b n K f) : Cl w.drew b n K f := ⟨h.cell, h.fro, h.lt⟩
theorem S_ext (l : List UInt8) (a b : Nat) : (S l).extract a b = S ((l.drop a).take (b - a)) := by
  apply ByteArray.ext
  rw [ByteArray.data_extract]
  simp [S]
/-- what take comes to, as a value -/
def pce (r : UInt8 × List UInt8 × Nat × Nat) : Value := .agg #[.int .u8 (r.1.toNat : Int), .string (S r.2.1), .int .i64 (r.2.2.1 : Int)]

set_option maxHeartbeats 400000 in
theorem take_short {b : Nat} {w : World} (l : List UInt8) (h : l.length < 6) :
    Calls Try.prog 54 #[.string (S l), .func (.func 71) #[] #[.pointer (some ⟨b, 0, none⟩)]] w fun e w' => e = .returned (.tuple #[pce (0, [], 0, 2), .int .i64 2]) ∧ Below w.heap.size w w' := by
  have hs := S_size l
  have h' : (l.length : Int) < 6 := by omega
  go_enter Try.func54, Try.ntmps54
  go_wp2
  exact bodyPost_ret (v := .tuple #[.agg #[.int .u8 0, .string ⟨#[]⟩, .int .i64 0], .int .i64 2]) (by simp [results, Try.results54, go_sem]) rfl ⟨rfl, ((Below.refl _ _).alloc (Nat.le_refl _) _)⟩

set_option maxHeartbeats 2000000 in
set_option maxRecDepth 100000 in
theorem take_bad {b : Nat} {w : World} (l : List UInt8) (h : 6 ≤ l.length) (hl : l.length ≤ 4611686018427387904) {s rest : List UInt8} {er : Nat} (hres : Hid (tex 65536 (l.drop 5) = (s, rest, er))) (he : er ≠ 0) :
    Calls Try.prog 54 #[.string (S l), .func (.func 71) #[] #[.pointer (some ⟨b, 0, none⟩)]] w fun e w' => e = .returned (.tuple #[pce (0, [], 0, 2), .int .i64 (er : Int)]) ∧ Below w.heap.size w w' := by
  have hs := S_size l
  have h' : ¬ (l.length : Int) < 6 := by omega
  have h4 : (4 : Int) ≤ (l.length : Int) := by omega
  have h4' : 4 ≤ l.length := by omega
  have hx : (S l).extract 4 l.length = S (l.drop 4) := S_drop l 4
  have h5 : l.drop 4 = l[4] :: l.drop 5 := List.drop_eq_getElem_cons (by omega)
  rw [h5] at hx
  have hl5 : (l.drop 5).length ≤ 4611686018427387904 := by rw [List.length_drop]; omega
  have hbe : (((er : Nat) : Int) != 0) = true := by rw [bne_iff_ne]; omega
  have HZ : Hid (Ze (w.alloc (.cells #[.int .u8 0, .string ⟨#[]⟩, .int .i64 0] 108)) w.heap.size) := Ze.new w _
  have HB : Hid (Below w.heap.size w (w.alloc (.cells #[.int .u8 0, .string ⟨#[]⟩, .int .i64 0] 108))) := (Below.refl _ _).alloc (Nat.le_refl _) _
  generalize l.drop 5 = t at *
  generalize l[4] = c at *
  clear h5 he
  go_enter Try.func54, Try.ntmps54
  go_wp2_with (first
    | (go_at_call 56; refine (wRead_any (c :: t) _).mono ?_; rintro e w1 ⟨rfl, hr1, hb1, -⟩; rw [World.size_alloc] at hr1)
    | (go_at_call 66; refine (Byte1_ok hr1).mono ?_; rintro e w2 ⟨rfl, hr2, hb2⟩)
    | (go_at_call 67; refine (Text_bad hr2 (.inr ⟨by omega, by omega⟩) (by omega) hres (by simpa using hbe)).mono ?_; rintro e w3 ⟨rfl, hr3, hb3⟩)
    | (go_at_call 68; refine (Err_any hr3).mono ?_; rintro e w4 ⟨rfl, rfl⟩; (have Z3 := ((HZ.out.below hb1 HZ.out.lt).but hb2 (by simp)).but hb3 (by simp)); have c0 := Z3.c0; have c1 := Z3.c1; have c2 := Z3.c2; have fr := Z3.fr))
  have hB : Below w.heap.size w w4 := ((HB.out.trans (hb1.mono (by simp))).trans (hb2.below (by omega) (Nat.le_trans HB.out.size hb1.size))).trans (hb3.below (by omega) (Nat.le_trans (Nat.le_trans HB.out.size hb1.size) hb2.size))
  exact bodyPost_ret (v := .tuple #[.agg #[.int .u8 0, .string ⟨#[]⟩, .int .i64 0], .int .i64 (er : Int)]) (by simp [results, Try.results54, go_sem, c0, c1, c2]) rfl ⟨rfl, ((hB.setCell (Nat.le_refl _) _).setCell (Nat.le_refl _) _).setCell (Nat.le_refl _) _⟩

set_option maxHeartbeats 4000000 in
set_option maxRecDepth 100000 in
theorem take_ok {b : Nat} {w : World} (hT : Tab w b) (l : List UInt8) (h : 6 ≤ l.length) (hl : l.length ≤ 4611686018427387904) {s rest : List UInt8} (hres : Hid (tex 65536 (l.drop 5) = (s, rest, 0))) (hq : l.take 4 = four (sumOf ((l.drop 4).take (l.length - 4 - rest.length)))) :
    Calls Try.prog 54 #[.string (S l), .func (.func 71) #[] #[.pointer (some ⟨b, 0, none⟩)]] w fun e w' => e = .returned (.tuple #[pce (l.getD 4 0, s, l.length - rest.length, 0), .int .i64 0]) ∧ Below w.heap.size w w' := by
  have hs := S_size l
  have h' : ¬ (l.length : Int) < 6 := by omega
  have h4 : (4 : Int) ≤ (l.length : Int) := by omega
  have h4' : 4 ≤ l.length := by omega
  have hx : (S l).extract 4 l.length = S (l.drop 4) := S_drop l 4
  have h5 : l.drop 4 = l[4] :: l.drop 5 := List.drop_eq_getElem_cons (by omega)
  rw [h5] at hx
  have hl5 : (l.drop 5).length ≤ 4611686018427387904 := by rw [List.length_drop]; omega
  have hrl : rest.length ≤ l.length - 5 := by have := tex_le 65536 (l.drop 5); rw [hres.out, List.length_drop] at this; exact this
  have hx4 : (S l).extract 0 4 = S (l.take 4) := S_take l 4
  have HD : Hid (l.getD 4 0 = l[4]) := by show _ = _; simp [List.getD, show 4 < l.length by omega]
  obtain ⟨n, hn⟩ : ∃ n, n = l.length - rest.length := ⟨_, rfl⟩
  have hxn : (S l).extract 4 n = S ((l.drop 4).take (l.length - 4 - rest.length)) := by rw [S_ext, hn, Nat.sub_right_comm]
  rw [hq] at hx4
  generalize hbd : (l.drop 4).take (l.length - 4 - rest.length) = bd at *
  have hbl : bd.length ≤ 4611686018427387904 := by rw [← hbd]; simp; omega
  have hsl := sumOf_lt bd
  have hn1 : (l.length : Int) - (rest.length : Int) = (n : Int) := by omega
  have hn2 : (4 : Int) ≤ (n : Int) := by omega
  have hn3 : 4 ≤ n := by omega
  have hn4 : (n : Int) ≤ (l.length : Int) := by omega
  have hn5 : n ≤ l.length := by omega
  have HN : Hid (n = l.length - rest.length) := hn
  have HT : Hid (Tab (w.alloc (.cells #[.int .u8 0, .string ⟨#[]⟩, .int .i64 0] 108)) b ∧ b < w.heap.size) := ⟨hT.below ((Below.refl w.heap.size w).alloc (Nat.le_refl _) _) hT.lt, hT.lt⟩
  have HZ : Hid (Ze (w.alloc (.cells #[.int .u8 0, .string ⟨#[]⟩, .int .i64 0] 108)) w.heap.size) := Ze.new w _
  have HB : Hid (Below w.heap.size w (w.alloc (.cells #[.int .u8 0, .string ⟨#[]⟩, .int .i64 0] 108))) := (Below.refl _ _).alloc (Nat.le_refl _) _
  generalize l.drop 5 = t at *
  generalize l[4] = c at *
  clear h5 hn hbd hT hq
  go_enter Try.func54, Try.ntmps54
  go_wp2_with (first
    | (go_at_call 56; refine (wRead_any (c :: t) _).mono ?_; rintro e w1 ⟨rfl, hr1, hb1, -⟩; rw [World.size_alloc] at hr1)
    | (go_at_call 66; refine (Byte1_ok hr1).mono ?_; rintro e w2 ⟨rfl, hr2, hb2⟩)
    | (go_at_call 67; refine (Text_ok hr2 (.inr ⟨by omega, by omega⟩) (by omega) hres).mono ?_; rintro e w3 ⟨rfl, hr3, hb3⟩)
    | (go_at_call 68; refine (Err_any hr3).mono ?_; rintro e w4 ⟨rfl, rfl⟩)
    | (go_at_call 57; refine (Left_any hr3).mono ?_; rintro e w5 ⟨rfl, rfl⟩))
  have hB : Below w.heap.size w w5 := ((HB.out.trans (hb1.mono (by simp))).trans (hb2.below (by omega) (Nat.le_trans HB.out.size hb1.size))).trans (hb3.below (by omega) (Nat.le_trans (Nat.le_trans HB.out.size hb1.size) hb2.size))
  have Z5 := ((HZ.out.below hb1 HZ.out.lt).but hb2 (by simp)).but hb3 (by simp)
  have T5 : Tab w5.drew b := (((HT.out.1.below hb1 (by have := HT.out.2; simp; omega)).but hb2 (by have := HT.out.2; omega)).but hb3 (by have := HT.out.2; omega)).drew
  have H5 : Hid (Below w.heap.size w w5 ∧ Ze w5 w.heap.size) := ⟨hB, Z5⟩
  clear hB Z5 hb1 hb2 hb3 hr1 hr2 hr3 HT HZ HB
  go_region_held3 (fun _ => True) (trivial) (first
    | (go_at_call 71; refine (sum1_any T5 bd (by omega)).mono ?_; rintro e w6 ⟨rfl, rfl⟩)
    | (go_at_call 69; refine (written_any _ hsl _).mono ?_; rintro e w7 ⟨rfl, hb7⟩))
  have Z7 := (show Ze w5.drew w.heap.size from ⟨H5.out.2.c0, H5.out.2.c1, H5.out.2.c2, H5.out.2.fr, H5.out.2.lt⟩).below hb7 H5.out.2.lt
  have H7 : Hid (Below w.heap.size w w7) := bel_of H5.out.1.drew hb7 (Nat.le_refl _)
  have c0 := Z7.c0
  have c1 := Z7.c1
  have c2 := Z7.c2
  have fr := Z7.fr
  clear Z7 hb7 T5
  go_wp2
  refine bodyPost_ret (v := .tuple #[.agg #[.int .u8 (c.toNat : Int), .string (S s), .int .i64 (n : Int)], .int .i64 0]) (by simp [results, Try.results54, go_sem, c0, c1, c2]) rfl ⟨?_, ((H7.out.setCell (Nat.le_refl _) _).setCell (Nat.le_refl _) _).setCell (Nat.le_refl _) _⟩
  rw [HD.out, ← HN.out]
  rfl
set_option maxHeartbeats 4000000 in
set_option maxRecDepth 100000 in
theorem take_sum {b : Nat} {w : World} (hT : Tab w b) (l : List UInt8) (h : 6 ≤ l.length) (hl : l.length ≤ 4611686018427387904) {s rest : List UInt8} (hres : Hid (tex 65536 (l.drop 5) = (s, rest, 0))) (hq : l.take 4 ≠ four (sumOf ((l.drop 4).take (l.length - 4 - rest.length)))) :
    Calls Try.prog 54 #[.string (S l), .func (.func 71) #[] #[.pointer (some ⟨b, 0, none⟩)]] w fun e w' => e = .returned (.tuple #[pce (0, [], 0, 2), .int .i64 3]) ∧ Below w.heap.size w w' := by
  have hs := S_size l
  have h' : ¬ (l.length : Int) < 6 := by omega
  have h4 : (4 : Int) ≤ (l.length : Int) := by omega
  have h4' : 4 ≤ l.length := by omega
  have hx : (S l).extract 4 l.length = S (l.drop 4) := S_drop l 4
  have h5 : l.drop 4 = l[4] :: l.drop 5 := List.drop_eq_getElem_cons (by omega)
  rw [h5] at hx
  have hl5 : (l.drop 5).length ≤ 4611686018427387904 := by rw [List.length_drop]; omega
  have hrl : rest.length ≤ l.length - 5 := by have := tex_le 65536 (l.drop 5); rw [hres.out, List.length_drop] at this; exact this
  have hx4 : (S l).extract 0 4 = S (l.take 4) := S_take l 4
  have HD : Hid (l.getD 4 0 = l[4]) := by show _ = _; simp [List.getD, show 4 < l.length by omega]
  obtain ⟨n, hn⟩ : ∃ n, n = l.length - rest.length := ⟨_, rfl⟩
  have hxn : (S l).extract 4 n = S ((l.drop 4).take (l.length - 4 - rest.length)) := by rw [S_ext, hn, Nat.sub_right_comm]
  generalize hbd : (l.drop 4).take (l.length - 4 - rest.length) = bd at *
  have hbl : bd.length ≤ 4611686018427387904 := by rw [← hbd]; simp; omega
  have hsl := sumOf_lt bd
  have hn1 : (l.length : Int) - (rest.length : Int) = (n : Int) := by omega
  have hn2 : (4 : Int) ≤ (n : Int) := by omega
  have hn3 : 4 ≤ n := by omega
  have hn4 : (n : Int) ≤ (l.length : Int) := by omega
  have hn5 : n ≤ l.length := by omega
  have hne : ((S (l.take 4)).toList == (S (four (sumOf bd))).toList) = false := by
    rw [S_toList, S_toList, beq_eq_false_iff_ne]
    exact hq
  have HN : Hid (n = l.length - rest.length) := hn
  have HT : Hid (Tab (w.alloc (.cells #[.int .u8 0, .string ⟨#[]⟩, .int .i64 0] 108)) b ∧ b < w.heap.size) := ⟨hT.below ((Below.refl w.heap.size w).alloc (Nat.le_refl _) _) hT.lt, hT.lt⟩
  have HZ : Hid (Ze (w.alloc (.cells #[.int .u8 0, .string ⟨#[]⟩, .int .i64 0] 108)) w.heap.size) := Ze.new w _
  have HB : Hid (Below w.heap.size w (w.alloc (.cells #[.int .u8 0, .string ⟨#[]⟩, .int .i64 0] 108))) := (Below.refl _ _).alloc (Nat.le_refl _) _
  generalize l.take 4 = q at *
  generalize l.drop 5 = t at *
  generalize l[4] = c at *
  clear h5 hn hbd hT hq
  go_enter Try.func54, Try.ntmps54
  go_wp2_with (first
    | (go_at_call 56; refine (wRead_any (c :: t) _).mono ?_; rintro e w1 ⟨rfl, hr1, hb1, -⟩; rw [World.size_alloc] at hr1)
    | (go_at_call 66; refine (Byte1_ok hr1).mono ?_; rintro e w2 ⟨rfl, hr2, hb2⟩)
    | (go_at_call 67; refine (Text_ok hr2 (.inr ⟨by omega, by omega⟩) (by omega) hres).mono ?_; rintro e w3 ⟨rfl, hr3, hb3⟩)
    | (go_at_call 68; refine (Err_any hr3).mono ?_; rintro e w4 ⟨rfl, rfl⟩)
    | (go_at_call 57; refine (Left_any hr3).mono ?_; rintro e w5 ⟨rfl, rfl⟩))
  have hB : Below w.heap.size w w5 := ((HB.out.trans (hb1.mono (by simp))).trans (hb2.below (by omega) (Nat.le_trans HB.out.size hb1.size))).trans (hb3.below (by omega) (Nat.le_trans (Nat.le_trans HB.out.size hb1.size) hb2.size))
  have Z5 := ((HZ.out.below hb1 HZ.out.lt).but hb2 (by simp)).but hb3 (by simp)
  have T5 : Tab w5.drew b := (((HT.out.1.below hb1 (by have := HT.out.2; simp; omega)).but hb2 (by have := HT.out.2; omega)).but hb3 (by have := HT.out.2; omega)).drew
  have H5 : Hid (Below w.heap.size w w5 ∧ Ze w5 w.heap.size) := ⟨hB, Z5⟩
  clear hB Z5 hb1 hb2 hb3 hr1 hr2 hr3 HT HZ HB
  go_region_held3 (fun _ => True) (trivial) (first
    | (go_at_call 71; refine (sum1_any T5 bd (by omega)).mono ?_; rintro e w6 ⟨rfl, rfl⟩)
    | (go_at_call 69; refine (written_any _ hsl _).mono ?_; rintro e w7 ⟨rfl, hb7⟩))
  have Z7 := (show Ze w5.drew w.heap.size from ⟨H5.out.2.c0, H5.out.2.c1, H5.out.2.c2, H5.out.2.fr, H5.out.2.lt⟩).below hb7 H5.out.2.lt
  have H7 : Hid (Below w.heap.size w w7) := bel_of H5.out.1.drew hb7 (Nat.le_refl _)
  have c0 := Z7.c0
  have c1 := Z7.c1
  have c2 := Z7.c2
  have fr := Z7.fr
  clear Z7 hb7 T5
  go_wp2
  exact bodyPost_ret (v := .tuple #[.agg #[.int .u8 0, .string ⟨#[]⟩, .int .i64 0], .int .i64 3]) (by simp [results, Try.results54, go_sem, c0, c1, c2]) rfl ⟨rfl, ((H7.out.setCell (Nat.le_refl _) _).setCell (Nat.le_refl _) _).setCell (Nat.le_refl _) _⟩

theorem take_any {b : Nat} {w : World} (hT : Tab w b) (l : List UInt8) (hl : l.length ≤ 4611686018427387904) :
    Calls Try.prog 54 #[.string (S l), .func (.func 71) #[] #[.pointer (some ⟨b, 0, none⟩)]] w fun e w' => e = .returned (.tuple #[pce (tak l), .int .i64 ((tak l).2.2.2 : Int)]) ∧ Below w.heap.size w w' := by
  by_cases h6 : l.length < 6
  · have ht : tak l = (0, [], 0, 2) := if_pos h6
    rw [ht]
    exact take_short l h6
  · obtain ⟨s, rest, er, hx⟩ : ∃ s rest er, tex 65536 (l.drop 5) = (s, rest, er) := ⟨_, _, _, rfl⟩
    by_cases he : er = 0
    · subst he
      by_cases hq : l.take 4 = four (sumOf ((l.drop 4).take (l.length - 4 - rest.length)))
      · have ht : tak l = (l.getD 4 0, s, l.length - rest.length, 0) := by
          unfold tak; rw [if_neg h6, hx]; show (if (0 : Nat) ≠ 0 then _ else _) = _; rw [if_neg (by simp), if_pos hq]
        rw [ht]
        exact take_ok hT l (by omega) hl hx hq
      · have ht : tak l = (0, [], 0, 3) := by
          unfold tak; rw [if_neg h6, hx]; show (if (0 : Nat) ≠ 0 then _ else _) = _; rw [if_neg (by simp), if_neg hq]
        rw [ht]
        exact take_sum hT l (by omega) hl hx hq
    · have ht : tak l = (0, [], 0, er) := by
        unfold tak; rw [if_neg h6, hx]; show (if er ≠ 0 then _ else _) = _; rw [if_pos he]
      rw [ht]
      exact take_bad l (by omega) hl hx he

theorem bel_dn {B : Nat} {w wr : World} (h : Below B w wr) (n : Nat) : Below B w (wr.drewN n) := ⟨h.os, h.tape, h.output, h.size, h.block⟩
/-- what Take comes to -/
def quad (r : UInt8 × List UInt8 × Nat × Nat) : Value := .tuple #[.int .u8 (r.1.toNat : Int), .string (S r.2.1), .int .i64 (r.2.2.1 : Int), .int .i64 (r.2.2.2 : Int)]
set_option maxHeartbeats 2000000 in
set_option maxRecDepth 100000 in
theorem Take_any (l : List UInt8) (hl : l.length ≤ 4611686018427387904) (w : World) :
    Calls Try.prog 39 #[.string (S l)] w fun e w' => e = .returned (quad (tak l)) ∧ Below w.heap.size w w' := by
  have hs := S_size l
  have HT : ∀ {b : Nat} {w : World}, Tab w b → _ := fun {b w} (hT : Tab w b) => take_any hT l hl
  generalize tak l = r at HT ⊢
  obtain ⟨c, s, n, er⟩ := r
  have HT : Hid _ := @HT
  go_enter Try.func39, Try.ntmps39
  go_wp2_with (first
    | (go_at_call 55; refine (sums_any _).mono ?_; rintro e w1 ⟨rfl, hT, hb1⟩)
    | (go_at_call 54; refine (HT.out hT).mono ?_; rintro e w2 ⟨rfl, hb2⟩; unfold pce))
  go_quiet (fail)
  go_wp2
  refine bodyPost_ret (v := quad (c, s, n, er)) (by simp [results, Try.results39, go_sem, quad]) rfl ⟨rfl, ?_⟩
  exact bel_dn ((bel_of (bel_of (Below.refl _ _) hb1 (Nat.le_refl _)) hb2 (Nat.le_refl _)).alloc (Nat.le_trans hb1.size hb2.size) _) _
end Go.Proofs.Ytiaeicfmdnmeeaa

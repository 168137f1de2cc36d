/-
  Package disk: Read, Cut, Delete; a file's crash.
-/
import Derived.Test.YtedcabnjcbdkaaaL4Sync
namespace Go.Proofs.Ytedcabnjcbdkaaa
open Go.RowKit Go.Shelf Go.Sort
open Go.Lib hiding intOf
variable {w : World} {B d : Nat} {es : List Le} {p : Int} {off : Bool} {mo : Option Nat}

theorem ba_list (s : ByteArray) : (⟨s.data.toList.toArray⟩ : ByteArray) = s := by
  apply ByteArray.ext
  exact Array.toArray_toList
theorem ba_app (a b : ByteArray) : (a ++ b).data.toList = a.data.toList ++ b.data.toList := by simp [ByteArray.data_append]
theorem ba_len (a : ByteArray) : a.data.toList.length = a.size := by rw [Array.length_toList]; rfl
theorem ba_take (s : ByteArray) (m : Nat) : (s.extract 0 m).data.toList = s.data.toList.take m := by
  simp [ByteArray.data_extract]
theorem ba_take_size (s : ByteArray) (m : Nat) : (s.extract 0 m).size = min m s.size := by
  rw [← ba_len, ba_take, List.length_take, ba_len]
theorem strCells_take (s : ByteArray) (m : Nat) : strCells (s.extract 0 m) = (strCells s).take m := by
  unfold strCells
  rw [ba_take, List.map_take]
/-- a row of bytes as a string -/
theorem conv_row {n : Nat} {sv : Value} {s : ByteArray} {w : World} (hown : w.ownsRow B 5 1 sv n (strCells s)) :
    (convert 62 9 sv).run Try.prog w = .ok (.string s) w := by
  have hl := hown.1
  rw [strCells_length, Nat.mul_one] at hl
  subst hl
  rcases hown.2 with ⟨rfl, h0⟩ | ⟨g, cap, cur, rfl, _, _, _, _, _, _⟩
  · have h1 : s = ⟨#[]⟩ := key_ext (by
      have : s.data.toList = [] := List.eq_nil_of_length_eq_zero (by rw [ba_len]; exact h0)
      rw [this])
    subst h1
    rw [run_convert_bytes_string w 62 9 5 none 0 0 Try.underlying62 Try.underlying5 Try.underlying9]
    simp [Conv.bytesToString]
    rfl
  · have := run_convert_bytes_back (P := Try.prog) w 62 9 5 ⟨g, 0, none⟩ cap s.data.toList Try.underlying62 Try.underlying5 Try.underlying9
      (fun j hj => hown.cells rfl j _ (by unfold strCells; rw [List.getElem?_map, List.getElem?_eq_getElem hj]; rfl))
    rw [ba_list, ba_len] at this
    exact this
/-- the first ones of a row -/
theorem row_take {w : World} {base : Nat} {e : TypeId} {a : Option Addr} {n c m : Nat} {xs : List Value} (h : w.ownsRow base e 1 (.slice a n c) n xs) (hm : m ≤ n) : w.ownsRow base e 1 (.slice a m c) m (xs.take m) := by
  refine ⟨by rw [List.length_take, h.1]; omega, ?_⟩
  rcases h.2 with ⟨h1, h0⟩ | ⟨g, cap, cur, h1, h2, h3, h4, h5, h6, h7⟩
  · injection h1 with h1 h2 h3
    subst h1; subst h3
    exact .inl ⟨by rw [show m = 0 by omega], by omega⟩
  · injection h1 with h1 h8 h9
    subst h1; subst h9
    refine .inr ⟨g, c, cur, rfl, h2, h3, by omega, h5, h6, ?_⟩
    rw [← h7, List.take_take]
    congr 1
    omega

set_option maxHeartbeats 4000000 in
theorem Read_any (h : Ld w B d es p off mo) (k : ByteArray) (hz : k.size ≤ 9223372036854775807) :
    Calls Try.prog 22 #[.pointer (some ⟨d, 0, none⟩), .string k] w fun e w' => e = .returned (.tuple #[.string (aRead (fil es, p, off) k).1, .int .i64 (aRead (fil es, p, off) k).2]) ∧ w' = w := by
  unfold aRead
  simp only [fil_no]
  by_cases hno : noOf es off k = 0
  · obtain ⟨rfl, v, hk⟩ := no_zero hno
    have hF := find_ok h hk
    have F : Fw w B v := h.fw _ hk
    rw [hno, fil_gv h.rise hk, if_neg (by simp)]
    have m0 := F.c0
    have hcv := conv_row F.row
    obtain ⟨a, c, hbv, -⟩ := row_slice F.row
    simp only [hbv] at m0 hcv
    have e1 : v.safe ++ v.rest = v.all := rfl
    rw [e1]
    generalize v.all = al at *
    clear h F
    go_enter Try.func22, Try.ntmps22
    go_wp2_with (go_at_call 38; refine hF.mono ?_; rintro e w1 ⟨rfl, rfl⟩)
    go_ret2
    exact ⟨rfl, rfl⟩
  · rw [if_pos hno]
    have hF := find_no h hz hno
    clear h
    generalize noOf es off k = z at *
    have hzz : (z == 0) = false := by simpa using hno
    go_enter Try.func22, Try.ntmps22
    go_wp2_with (go_at_call 38; refine hF.mono ?_; rintro e w1 ⟨rfl, rfl⟩)
    go_ret2
    exact ⟨rfl, rfl⟩

set_option maxHeartbeats 4000000 in
theorem Delete_any (h : Ld w B d es p off mo) (k : ByteArray) (hz : k.size ≤ 9223372036854775807) :
    Calls Try.prog 25 #[.pointer (some ⟨d, 0, none⟩), .string k] w fun e w' => e = .returned (.int .i64 (aDel (fil es, p, off) k).1) ∧ Did w B d es mo w' (aDel (fil es, p, off) k).2 := by
  unfold aDel
  simp only [fil_no]
  by_cases hno : noOf es off k = 0
  · obtain ⟨rfl, v, hk⟩ := no_zero hno
    have hF := find_ok h hk
    have hA := act_any h
    rw [hno]
    cases hp : powOk p with
    | false =>
      obtain rfl := pow_zero hp
      rw [stepA_off]
      clear h
      go_enter Try.func25, Try.ntmps25
      go_wp2_with (first
        | (go_at_call 38; refine hF.mono ?_; rintro e w1 ⟨rfl, rfl⟩)
        | (go_at_call 36; refine hA.mono ?_; rintro e w2 ⟨rfl, D2, C2⟩; have HD : Hid _ := And.intro D2 C2; clear D2 C2))
      go_ret
      exact ⟨rfl, Did.own HD.out.1 HD.out.2⟩
    | true =>
      rw [stepA_ok hp]
      rw [hp] at hA
      obtain ⟨mb, rfl⟩ : ∃ mb, mo = some mb := by
        cases mo with
        | none => rw [h.mn rfl] at hk; cases hk
        | some mb => exact ⟨mb, rfl⟩
      clear h
      go_enter Try.func25, Try.ntmps25
      go_wp2_with (first
        | (go_at_call 38; refine hF.mono ?_; rintro e w1 ⟨rfl, rfl⟩)
        | (go_at_call 36; refine hA.mono ?_; rintro e w2 ⟨rfl, D2, C2⟩; have m0 := D2.c0; have HD : Hid _ := And.intro D2 C2; obtain ⟨w3, hrun, hown3, hturn3⟩ := (D2.mp mb rfl).drop strKey Try.underlying58 (keyIs hz) 0; have HE : Hid _ := And.intro hown3 hturn3; clear D2 C2 hown3 hturn3))
      go_ret
      obtain ⟨D2, C2⟩ := HD.out
      obtain ⟨hown3, hturn3⟩ := HE.out
      refine ⟨rfl, ?_⟩
      have C3 : Ch (fun x => x = mb) w2 w3 := Ch.of_grown hturn3.grown (fun x e _ => by cases e; rfl)
      rw [ents_del dg D2.rise] at hown3
      have hkm : ∀ x, x = mb → ∀ cur t f, w2.heap[x]? ≠ some (.cells cur t f) := by
        rintro x rfl cur t f hx
        obtain ⟨a, c, hb, _⟩ := D2.mp x rfl
        rw [hb] at hx; cases hx
      refine ⟨del es k, some mb, ⟨C3.obj D2.hd (fun e => hkm d e _ _ _ D2.hd), ?_, (fun e => by cases e), ?_, ?_, del_rise D2.rise k, D2.low, ?_, ?_, D2.pw⟩, vals_del sr es k, (C2.mono (fun _ _ e => .inl e)).trans (C3.mono (fun x _ e => .inr (.inl (by rw [e])))), ?_⟩
      · intro mb' e
        cases e
        have := owns_tight hown3
        rw [ents_len] at this
        exact this
      · intro e he
        have he := (mem_del D2.rise k e).1 he
        exact (D2.fw e he.1).ch C3 (fun x hx e1 => by
          obtain ⟨cur, t, h1, _⟩ := (D2.fw e he.1).kind hx
          exact hkm x e1 _ _ _ h1)
      · intro a ha b hb hne
        exact D2.apart a ((mem_del D2.rise k a).1 ha).1 b ((mem_del D2.rise k b).1 hb).1 hne
      · have := D2.few
        rw [del_len]; split <;> omega
      · intro e he
        exact D2.small e ((mem_del D2.rise k e).1 he).1
      · intro x hx
        rcases hx with hx | hx | ⟨e, he, hx⟩
        · exact .inl (.inl hx)
        · exact .inl (.inr (.inl hx))
        · exact .inl (.inr (.inr ⟨e, ((mem_del D2.rise k e).1 he).1, hx⟩))
  · rw [stepA_no hno]
    have hF := find_no h hz hno
    have HD : Hid _ := Did.same h
    clear h
    generalize noOf es off k = z at *
    have hzz : (z == 0) = false := by simpa using hno
    go_enter Try.func25, Try.ntmps25
    go_wp2_with (go_at_call 38; refine hF.mono ?_; rintro e w1 ⟨rfl, rfl⟩)
    go_ret
    exact ⟨rfl, HD.out⟩
end Go.Proofs.Ytedcabnjcbdkaaa

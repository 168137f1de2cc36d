/-
  Package disk: Cut; a file's crash.
-/
import Derived.Test.YtedcabnjcbdkaaaL4Cut
namespace Go.Proofs.Ytedcabnjcbdkaaa
open Go.RowKit Go.Shelf Go.Sort
open Go.Lib hiding intOf
variable {w : World} {B d : Nat} {es : List Le} {p : Int} {off : Bool} {mo : Option Nat}

theorem cut_all (s r : ByteArray) (m : Nat) : (cutv (s, r) m).1 ++ (cutv (s, r) m).2 = (s ++ r).extract 0 m := by
  apply key_ext
  rw [ba_take, ba_app, ba_app]
  unfold cutv
  simp only
  split
  · rename_i h
    rw [ba_take]
    show _ ++ [] = _
    rw [List.append_nil, List.take_append_of_le_length (by rw [ba_len]; exact h)]
  · rename_i h
    rw [ba_take, List.take_append, List.take_of_length_le (l := s.data.toList) (by rw [ba_len]; omega), ba_len]
theorem cut_safe (s r : ByteArray) (m : Nat) : (cutv (s, r) m).1.size = min s.size m := by
  unfold cutv
  simp only
  split
  · rename_i h
    rw [ba_take_size]; omega
  · simp only; omega
theorem cr_all (n : Int) (s r : ByteArray) : (cr n (s, r)).1 ++ (cr n (s, r)).2 = (s ++ r).extract 0 (s.size + min n.toNat r.size) := by
  apply key_ext
  rw [ba_take, ba_app, ba_app]
  unfold cr
  simp only
  rw [ba_app, ba_take, List.take_append, ba_len, List.take_of_length_le (l := s.data.toList) (by rw [ba_len]; omega), Nat.add_sub_cancel_left]
  show _ ++ [] = _
  rw [List.append_nil]
theorem cr_safe (n : Int) (s r : ByteArray) : (cr n (s, r)).1.size = s.size + min n.toNat r.size := by
  unfold cr
  simp only
  rw [ByteArray.size_append, ba_take_size]; omega
/-- a file whose slice is cut, and whose number of safe bytes is set -/
theorem Fw.cut {w : World} {B : Nat} {v : Lv} {a : Option Addr} {n c m : Nat} (F : Fw w B v) (hbv : v.bv = .slice a n c) (hn : n = v.all.size) (hm : m ≤ n) {s r : ByteArray} (hall : s ++ r = v.all.extract 0 m) {w' : World}
    (hh : w'.heap[v.g]? = some (.cells #[.slice a m c, .int .i64 (s.size : Int)] 65 (0, 0))) (hc : Ch (fun x => x = v.g) w w') : Fw w' B { safe := s, rest := r, g := v.g, bv := .slice a m c } where
  hd := hh
  row := by
    show w'.ownsRow B 5 1 (.slice a m c) (s ++ r).size (strCells (s ++ r))
    have h1 := F.row
    rw [hbv, ← hn] at h1
    have h2 := row_take h1 hm
    rw [hall, strCells_take, ba_take_size, show min m v.all.size = m by omega]
    refine hc.row h2 (fun x hx => ?_)
    rintro rfl
    have hx' : v.bv.ownBlock = some v.g := by rw [hbv]; cases a <;> exact hx
    obtain ⟨_, cur, hcc⟩ := row_obj F.row hx'
    rw [F.hd] at hcc; injection hcc with hcc; injection hcc with _ hcc; cases hcc
  low := F.low

set_option maxHeartbeats 4000000 in
theorem Cut_any (h : Ld w B d es p off mo) (k : ByteArray) (n : Int) (hz : k.size ≤ 9223372036854775807) :
    Calls Try.prog 24 #[.pointer (some ⟨d, 0, none⟩), .string k, .int .i64 n] w fun e w' => e = .returned (.int .i64 (aCut (fil es, p, off) k n).1) ∧ Did w B d es mo w' (aCut (fil es, p, off) k n).2 := by
  unfold aCut cutNo
  simp only [fil_no]
  by_cases hno : noOf es off k = 0
  · obtain ⟨rfl, v, hk⟩ := no_zero hno
    have hF := find_ok h hk
    have hA := act_any h
    have F : Fw w B v := h.fw _ hk
    have m0 := F.c0
    have hsm : v.all.size ≤ 1048576 := (h.small _ hk).2
    obtain ⟨a, c, hbv, -, hnc, hcm⟩ := row_slice F.row
    rw [hbv] at m0
    rw [hno, fil_gv h.rise hk, if_neg (by simp)]
    have e1 : v.safe.size + v.rest.size = v.all.size := (ByteArray.size_append).symm
    simp only [e1]
    by_cases hout : n < 0 ∨ ((v.all.size : Nat) : Int) < n
    · rw [if_pos hout, stepA_no (by decide)]
      have HD : Hid _ := Did.same h
      clear h F hA
      rcases hout with h1 | h1
      · go_enter Try.func24, Try.ntmps24
        go_wp2_with (go_at_call 38; refine hF.mono ?_; rintro e w1 ⟨rfl, rfl⟩)
        go_ret
        exact ⟨rfl, HD.out⟩
      · have h0 : ¬ n < 0 := by omega
        go_enter Try.func24, Try.ntmps24
        go_wp2_with (go_at_call 38; refine hF.mono ?_; rintro e w1 ⟨rfl, rfl⟩)
        go_ret
        exact ⟨rfl, HD.out⟩
    · rw [if_neg hout]
      obtain ⟨m, rfl⟩ : ∃ m : Nat, n = (m : Int) := ⟨n.toNat, by omega⟩
      have h0 : ¬ (m : Int) < 0 := by omega
      have h1 : ¬ ((v.all.size : Nat) : Int) < (m : Int) := by omega
      have h2 : m ≤ v.all.size := by omega
      have h3 : m ≤ c := by omega
      cases hp : powOk p with
      | false =>
        obtain rfl := pow_zero hp
        rw [stepA_off]
        clear h F
        go_enter Try.func24, Try.ntmps24
        go_wp2_with (first
          | (go_at_call 38; refine hF.mono ?_; rintro e w1 ⟨rfl, rfl⟩)
          | (go_at_call 36; refine hA.mono ?_; rintro e w2 ⟨rfl, D2, C2⟩; have HD : Hid _ := And.intro D2 C2; clear D2 C2))
        go_ret
        exact ⟨rfl, Did.own HD.out.1 HD.out.2⟩
      | true =>
        rw [stepA_ok hp, Int.toNat_natCast]
        rw [hp] at hA
        have hmin : min (v.safe.size : Int) (m : Int) = (((cutv (v.safe, v.rest) m).1.size : Nat) : Int) := by rw [cut_safe]; omega
        have hmi : (m : Int) ≤ (c : Int) := by omega
        clear h F
        go_enter Try.func24, Try.ntmps24
        go_wp2_with (first
          | (go_at_call 38; refine hF.mono ?_; rintro e w1 ⟨rfl, rfl⟩)
          | (go_at_call 36; refine hA.mono ?_; rintro e w2 ⟨rfl, D2, C2⟩; have n0 := (D2.fw _ hk).c0; have n1 := (D2.fw _ hk).c1; have fr0 := (D2.fw _ hk).fro 0; have fr1 := (D2.fw _ hk).fro 1; simp only [hbv] at n0; have HD : Hid _ := And.intro D2 C2; clear D2 C2))
        go_ret
        obtain ⟨D2, C2⟩ := HD.out
        have F : Fw w2 B v := D2.fw _ hk
        refine ⟨rfl, ?_⟩
        have C3 : Ch (fun x => x = v.g) w2 ((w2.setCell ⟨v.g, 0, none⟩ (.slice a m c)).setCell ⟨v.g, 1, none⟩ (.int .i64 (((cutv (v.safe, v.rest) m).1.size : Nat) : Int))) := ((Ch.refl (fun x => x = v.g) w2).setCell ⟨v.g, 0, none⟩ _ (fun _ => rfl)).setCell ⟨v.g, 1, none⟩ _ (fun _ => rfl)
        have HH := F.cut hbv rfl h2 (cut_all v.safe v.rest m) (two1 (two0 F.hd (.slice a m c)) _) C3
        have := Did.file D2 C2 hk (C3.mono (fun _ _ e => .inl e)) HH rfl (fun x hx => .inl (by rw [hbv]; cases a <;> exact hx)) (by
          show ((cutv (v.safe, v.rest) m).1 ++ (cutv (v.safe, v.rest) m).2).size ≤ _
          rw [cut_all, ba_take_size]
          have : (v.safe ++ v.rest).size = v.all.size := rfl
          omega)
        exact this
  · rw [if_pos hno, stepA_no hno]
    have hF := find_no h hz hno
    have HD : Hid _ := Did.same h
    clear h
    generalize noOf es off k = z at *
    have hzz : (z == 0) = false := by simpa using hno
    go_enter Try.func24, Try.ntmps24
    go_wp2_with (go_at_call 38; refine hF.mono ?_; rintro e w1 ⟨rfl, rfl⟩)
    go_ret
    exact ⟨rfl, HD.out⟩

/-- a file's crash -/
def crL (n : Int) (v : Lv) : Lv := { safe := (cr n (v.safe, v.rest)).1, rest := (cr n (v.safe, v.rest)).2, g := v.g, bv := match v.bv with
  | .slice a _ c => .slice a (cr n (v.safe, v.rest)).1.size c
  | x => x }
set_option maxHeartbeats 4000000 in
theorem crash_any {v : Lv} (F : Fw w B v) (hsm : v.all.size ≤ 1048576) (n : Int) :
    Calls Try.prog 39 #[.pointer (some ⟨v.g, 0, none⟩), .int .i64 n] w fun e w' => (∃ x, e = .returned x) ∧ Fw w' B (crL n v) ∧ Ch (fun x => x = v.g) w w' := by
  have m0 := F.c0
  have m1 := F.c1
  have fr0 := F.fro 0
  have fr1 := F.fro 1
  obtain ⟨a, c, hbv, -, hnc, hcm⟩ := row_slice F.row
  rw [hbv] at m0
  have e1 : v.safe.size + v.rest.size = v.all.size := (ByteArray.size_append).symm
  obtain ⟨t, ht⟩ : ∃ t, t = (cr n (v.safe, v.rest)).1.size := ⟨_, rfl⟩
  have hts := cr_safe n v.safe v.rest
  rw [← ht] at hts
  have htl : t ≤ v.all.size := by omega
  have htc : (t : Int) ≤ (c : Int) := by omega
  have htc' : t ≤ c := by omega
  have hw1 : IntKind.i64.wrap ((v.all.size : Int) - (v.safe.size : Int)) = (v.rest.size : Int) := by rw [IntKind.wrap_i64]; omega
  have hw2 : IntKind.i64.wrap ((v.safe.size : Int) + min (max n 0) (v.rest.size : Int)) = (t : Int) := by
    have : min (max n 0) (v.rest.size : Int) = ((min n.toNat v.rest.size : Nat) : Int) := by omega
    rw [this, IntKind.wrap_i64]; omega
  have D1 := two1 F.hd (.int .i64 (t : Int))
  have k0 : (w.setCell ⟨v.g, 1, none⟩ (.int .i64 (t : Int))).cell? ⟨v.g, 0, none⟩ = some (.slice a v.all.size c) := by simp [World.cell?, D1, hbv]
  have k1 : (w.setCell ⟨v.g, 1, none⟩ (.int .i64 (t : Int))).cell? ⟨v.g, 1, none⟩ = some (.int .i64 (t : Int)) := by simp [World.cell?, D1]
  have HF : Hid (Fw w B v) := F
  have HT : Hid (t = (cr n (v.safe, v.rest)).1.size) := ht
  have HX : Hid _ := hts
  clear F ht hts D1 e1
  go_enter Try.func39, Try.ntmps39
  go_wp2
  go_region
  all_goals go_wp2
  all_goals go_region
  all_goals go_wp2
  all_goals go_end0
  all_goals
    refine ⟨⟨_, rfl⟩, ?_⟩
    have F := HF.out
    have C3 : Ch (fun x => x = v.g) w ((w.setCell ⟨v.g, 1, none⟩ (.int .i64 (t : Int))).setCell ⟨v.g, 0, none⟩ (.slice a t c)) := ((Ch.refl (fun x => x = v.g) w).setCell ⟨v.g, 1, none⟩ _ (fun _ => rfl)).setCell ⟨v.g, 0, none⟩ _ (fun _ => rfl)
    have hh := two0 (two1 F.hd (.int .i64 (t : Int))) (.slice a t c)
    have e2 : crL n v = { safe := (cr n (v.safe, v.rest)).1, rest := (cr n (v.safe, v.rest)).2, g := v.g, bv := .slice a t c } := by
      unfold crL
      rw [hbv, HT.out]
    have H3 := F.cut hbv rfl htl (cr_all n v.safe v.rest |>.trans (by rw [HX.out]; rfl)) (by rw [← HT.out]; exact hh) C3
    rw [e2]
    exact ⟨⟨H3.hd, H3.row, H3.low⟩, ⟨C3.os, C3.tape, C3.output, C3.size, C3.block⟩⟩
end Go.Proofs.Ytedcabnjcbdkaaa

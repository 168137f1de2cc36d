/-
  Package disk: Sync, Read, Cut, Delete.
-/
import Derived.Test.YtedcabnjcbdkaaaL4Act
namespace Go.Proofs.Ytedcabnjcbdkaaa
open Go.RowKit Go.Shelf Go.Sort
open Go.Lib hiding intOf
variable {w : World} {B d : Nat} {es : List Le} {p : Int} {off : Bool} {mo : Option Nat}

theorem stepA_no {no : Int} (h : no ≠ 0) (fs' : List Fil) (st : Ab) : stepA no fs' st = (no, st) := if_pos h
theorem stepA_off (fs' fs : List Fil) (off : Bool) : stepA 0 fs' (fs, 0, off) = (7, fs, 0, true) := rfl
theorem stepA_ok {p : Int} (h : powOk p = true) (fs' fs : List Fil) (off : Bool) : stepA 0 fs' (fs, p, off) = (0, fs', powOf p, off) := by
  simp [stepA, h]
/-- the file can be asked for -/
theorem no_zero {es : List Le} {off : Bool} {k : ByteArray} (h : noOf es off k = 0) : off = false ∧ ∃ v, (k, v) ∈ es := by
  cases off with
  | true => simp [noOf] at h
  | false =>
    refine ⟨rfl, ?_⟩
    cases hh : has es k with
    | false => simp [noOf, hh] at h
    | true => exact has_mem hh
theorem pow_zero {p : Int} (h : powOk p = false) : p = 0 := by simpa [powOk] using h
/-- what the disk's own cell alone was changed for -/
theorem Did.own {w' : World} {q : Int} {o : Bool} (h : Ld w' B d es q o mo) (hc : Ch (fun x => x = d) w w') : Did w B d es mo w' (fil es, q, o) :=
  ⟨es, mo, h, rfl, hc.mono (fun _ _ e => .inl e), fun _ hx => .inl hx⟩
/-- a file was changed behind that -/
theorem Did.file {w1 w2 : World} {q : Int} {o : Bool} (h : Ld w1 B d es q o mo) (hc : Ch (fun x => x = d) w w1) {k : ByteArray} {v v' : Lv} (hk : (k, v) ∈ es) (hc2 : Ch (fun x => v.at x) w1 w2) (hf : Fw w2 B v') (hg : v'.g = v.g)
    (hb : ∀ x, v'.bv.ownBlock = some x → v.bv.ownBlock = some x ∨ w1.heap.size ≤ x) (hs : v'.all.size ≤ 1048576) : Did w B d es mo w2 (put (fil es) k (sr v'), q, o) :=
  ⟨put es k v', mo, h.file hk hc2 hf hg hb hs, vals_put sr es k v',
    (hc.mono (fun _ _ e => .inl e)).trans (hc2.mono (fun _ _ hx => .inr (.inr ⟨_, hk, hx⟩))),
    fun _ hx => (foot_file (w := w1) h.rise hk hg hb hx).imp id (fun e => Nat.le_trans hc.size e)⟩

theorem safe_le (v : Lv) : v.safe.size ≤ v.all.size := by unfold Lv.all; rw [ByteArray.size_append]; omega

set_option maxHeartbeats 4000000 in
theorem Sync_any (h : Ld w B d es p off mo) (k : ByteArray) (hz : k.size ≤ 9223372036854775807) :
    Calls Try.prog 20 #[.pointer (some ⟨d, 0, none⟩), .string k] w fun e w' => e = .returned (.int .i64 (aSync (fil es, p, off) k).1) ∧ Did w B d es mo w' (aSync (fil es, p, off) k).2 := by
  unfold aSync
  simp only [fil_no]
  by_cases hno : noOf es off k = 0
  · obtain ⟨rfl, v, hk⟩ := no_zero hno
    have hF := find_ok h hk
    have hA := act_any h
    rw [hno, fil_gv h.rise hk]
    cases hp : powOk p with
    | false =>
      obtain rfl := pow_zero hp
      rw [stepA_off]
      have hr := h.rise
      clear h
      go_enter Try.func20, Try.ntmps20
      go_wp2_with (first
        | (go_at_call 38; refine hF.mono ?_; rintro e w1 ⟨rfl, rfl⟩)
        | (go_at_call 36; refine hA.mono ?_; rintro e w2 ⟨rfl, D2, C2⟩; have HD : Hid _ := And.intro D2 C2; clear D2 C2))
      go_ret
      exact ⟨rfl, Did.own HD.out.1 HD.out.2⟩
    | true =>
      rw [stepA_ok hp]
      rw [hp] at hA
      obtain ⟨a, c, hbv, -⟩ := row_slice (h.fw _ hk).row
      have hr := h.rise
      have hsm : v.all.size ≤ 1048576 := (h.small _ hk).2
      clear h
      go_enter Try.func20, Try.ntmps20
      go_wp2_with (first
        | (go_at_call 38; refine hF.mono ?_; rintro e w1 ⟨rfl, rfl⟩)
        | (go_at_call 36; refine hA.mono ?_; rintro e w2 ⟨rfl, D2, C2⟩; have m0 := (D2.fw _ hk).c0; have m1 := (D2.fw _ hk).c1; have fr := (D2.fw _ hk).fro 1; simp only [hbv] at m0; have HD : Hid _ := And.intro D2 C2; clear D2 C2))
      go_ret
      obtain ⟨D2, C2⟩ := HD.out
      have F := D2.fw _ hk
      refine ⟨rfl, ?_⟩
      have hne : ∀ x, v.bv.ownBlock = some x → x ≠ v.g := by
        rintro x hx rfl
        obtain ⟨_, cur, hcc⟩ := row_obj F.row hx
        rw [F.hd] at hcc; injection hcc with hcc; injection hcc with _ hcc; cases hcc
      have C3 : Ch (fun x => x = v.g) w2 (w2.setCell ⟨v.g, 1, none⟩ (.int .i64 (v.all.size : Int))) := (Ch.refl _ w2).setCell _ _ (fun _ => rfl)
      have e1 : ({ safe := v.all, rest := ⟨#[]⟩, g := v.g, bv := v.bv } : Lv).all = v.all := by
        show v.all ++ (⟨#[]⟩ : ByteArray) = v.all
        exact ByteArray.append_empty
      exact Did.file D2 C2 hk (C3.mono (fun _ _ e => .inl e)) (v' := { safe := v.all, rest := ⟨#[]⟩, g := v.g, bv := v.bv })
        ⟨two1 F.hd _, by rw [e1]; exact C3.row F.row (fun x hx => hne x hx), F.low⟩ rfl (fun x hx => .inl hx) (by rw [e1]; exact hsm)
  · rw [stepA_no hno]
    have hF := find_no h hz hno
    have HD : Hid _ := Did.same h
    clear h
    generalize noOf es off k = z at *
    have hzz : (z == 0) = false := by simpa using hno
    go_enter Try.func20, Try.ntmps20
    go_wp2_with (go_at_call 38; refine hF.mono ?_; rintro e w1 ⟨rfl, rfl⟩)
    go_ret
    exact ⟨rfl, HD.out⟩
end Go.Proofs.Ytedcabnjcbdkaaa

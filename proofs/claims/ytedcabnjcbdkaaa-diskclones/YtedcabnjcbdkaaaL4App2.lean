/-
  Package disk: Append, whatever it is asked.
-/
import Derived.Test.YtedcabnjcbdkaaaL4App
namespace Go.Proofs.Ytedcabnjcbdkaaa
open Go.RowKit Go.Shelf Go.Sort
open Go.Lib hiding intOf
variable {w : World} {B d : Nat} {es : List Le} {p : Int} {off : Bool} {mo : Option Nat}

theorem put_put {V : Type} (es : List (ByteArray × V)) (k : ByteArray) (a b : V) : put (put es k a) k b = put es k b := by
  induction es with
  | nil => rw [put_nil, put_nil]; exact put_cons_eq (y := (k, a))
  | cons y r ih =>
    rcases lt_three y.1 k with h | h | h
    · rw [put_cons_lt h, put_cons_lt h, put_cons_lt h, ih]
    · subst h
      rw [put_cons_eq, put_cons_eq]
      exact (put_cons_eq (y := y) (es := r) (v := b)).symm
    · rw [put_cons_gt h, put_cons_gt h]
      exact put_cons_eq (y := (k, a))
theorem put_mem {V : Type} {es : List (ByteArray × V)} (hs : Rise es) (k : ByteArray) (a : V) : (k, a) ∈ put es k a := (mem_put hs k a _).2 (.inl rfl)
/-- what an Append that is not refused finds -/
theorem app_zero (h : Ld w B d es p off mo) {k s : ByteArray} (hno : appNo (fil es, p, off) k s = 0) : off = false ∧ 1 ≤ k.size ∧ k.size ≤ 32 ∧
    ((∃ v, (k, v) ∈ es ∧ v.all.size + s.size ≤ 1048576) ∨ (has es k = false ∧ es.length < 256 ∧ s.size ≤ 1048576)) := by
  unfold appNo at hno
  simp only [fil_has, fil_len] at hno
  cases off with
  | true => simp at hno
  | false =>
    simp only [Bool.false_eq_true, if_false] at hno
    by_cases hname : k.size < 1 ∨ 32 < k.size
    · rw [if_pos hname] at hno; cases hno
    · rw [if_neg hname] at hno
      refine ⟨rfl, by omega, by omega, ?_⟩
      cases hh : has es k with
      | true =>
        obtain ⟨v, hk⟩ := has_mem hh
        rw [hh] at hno
        simp only [if_true, fil_gv h.rise hk] at hno
        have e1 : v.safe.size + v.rest.size = v.all.size := (ByteArray.size_append).symm
        rw [e1] at hno
        by_cases hf : 1048576 < v.all.size + s.size
        · rw [if_pos hf] at hno; cases hno
        · exact .inl ⟨v, hk, by omega⟩
      | false =>
        rw [hh] at hno
        simp only [Bool.false_eq_true, if_false] at hno
        have hf := h.few
        by_cases hf' : es.length = 256 ∨ 1048576 < s.size
        · rw [if_pos hf'] at hno; cases hno
        · exact .inr ⟨rfl, by omega, by omega⟩
/-- a new file, and its bytes, behind the disk's own cell -/
theorem Did.grew {w2 w3 w4 : World} {q : Int} {o : Bool} {k s : ByteArray} {g : Nat} {v' : Value} (C2 : Ch (fun x => x = d) w w2) (hr : Rise es) (hO : Opened w2 B d es q o mo k g w3) (hs : s.size ≤ 1048576)
    (hF : Fw w4 B (Go.Proofs.Ytedcabnjcbdkaaa.grown (nf g) s v')) (hC : Ch (fun x => (nf g).at x) w3 w4) (h4 : ∀ x, v'.ownBlock = some x → (nf g).bv.ownBlock = some x ∨ w3.heap.size ≤ x) : Did w B d es mo w4 (put (fil es) k (⟨#[]⟩, ⟨#[]⟩ ++ s), q, o) := by
  obtain ⟨hg, mo', L3, C3, hm⟩ := hO
  have hk := put_mem hr k (nf g)
  have L4 := L3.file hk hC hF rfl h4 (by
    rw [grown_all, nf_all, ByteArray.size_append]
    show 0 + s.size ≤ _
    omega)
  rw [put_put] at L4
  have C3' : Ch (foot d mo es) w2 w3 := C3.mono (fun x _ e => e.elim .inl (fun e => .inr (.inl e)))
  have CA : Ch (foot d mo es) w w3 := (C2.mono (fun _ _ e => .inl e)).trans C3'
  refine ⟨put es k (Go.Proofs.Ytedcabnjcbdkaaa.grown (nf g) s v'), mo', L4, vals_put sr es k _, ?_, ?_⟩
  · refine ⟨hC.os.trans CA.os, hC.tape.trans CA.tape, hC.output.trans CA.output, Nat.le_trans CA.size hC.size, fun x hx hX => (hC.block x (Nat.lt_of_lt_of_le hx CA.size) ?_).trans (CA.block x hx hX)⟩
    rintro (e | e)
    · have e : x = g := e
      have := C2.size
      omega
    · cases e
  · intro x hx
    rcases hx with hx | hx | ⟨e, he, hx⟩
    · exact .inl (.inl hx)
    · rcases hm x hx with h1 | h1
      · exact .inl (.inr (.inl h1))
      · exact .inr (Nat.le_trans C2.size h1)
    · rcases (mem_put hr k _ e).1 he with rfl | ⟨he, _⟩
      · rcases hx with hx | hx
        · have hx : x = g := hx
          have := C2.size
          exact .inr (by omega)
        · rcases h4 x hx with h1 | h1
          · cases h1
          · exact .inr (Nat.le_trans CA.size h1)
      · exact .inl (.inr (.inr ⟨e, he, hx⟩))

theorem Opened.fw {w w' : World} {k : ByteArray} {g : Nat} (h : Opened w B d es p off mo k g w') (hr : Rise es) : Fw w' B (nf g) := by
  obtain ⟨_, mo', L3, _⟩ := h
  exact L3.fw _ (put_mem hr k (nf g))
theorem Opened.size {w w' : World} {k : ByteArray} {g : Nat} (h : Opened w B d es p off mo k g w') : w.heap.size ≤ w'.heap.size := by
  obtain ⟨_, mo', _, C3, _⟩ := h
  exact C3.size
set_option maxRecDepth 100000 in
set_option maxHeartbeats 4000000 in
theorem Append_any (h : Ld w B d es p off mo) (k s : ByteArray) (hz : k.size ≤ 9223372036854775807) (hB : B ≤ w.heap.size) :
    Calls Try.prog 19 #[.pointer (some ⟨d, 0, none⟩), .string k, .string s] w fun e w' => e = .returned (.int .i64 (aApp (fil es, p, off) k s).1) ∧ Did w B d es mo w' (aApp (fil es, p, off) k s).2 := by
  unfold aApp
  by_cases hno : appNo (fil es, p, off) k s = 0
  · obtain ⟨rfl, hk1, hk2, hcase⟩ := app_zero h hno
    rw [hno]
    have c3 := h.c3
    have h1' : ¬ (k.size : Int) < 1 := by omega
    have h2' : ¬ (32 : Int) < (k.size : Int) := by omega
    have hA := act_any h
    have hfits : Calls Try.prog 35 #[.pointer (some ⟨d, 0, none⟩), .string k, .string s] w fun e w' => e = .returned (.bool true) ∧ w' = w := by
      rcases hcase with ⟨v, hk, hs⟩ | ⟨hk, hl, hs⟩
      · have := fits_has h hk s
        rw [show decide (v.all.size + s.size ≤ 1048576) = true by simpa using hs] at this
        exact this
      · have := fits_no h hz hk s
        rw [show decide (es.length < 256 ∧ s.size ≤ 1048576) = true by simp [hl, hs]] at this
        exact this
    have hr := h.rise
    have hgv : ∀ v, (k, v) ∈ es → getv (fil es) k = (v.safe, v.rest) := fun v hk => by
      unfold getv
      rw [fil_has, mem_has hr hk, if_pos rfl, fil_gv hr hk]
    have hgn : has es k = false → getv (fil es) k = (⟨#[]⟩, ⟨#[]⟩) := fun hk => by
      unfold getv
      rw [fil_has, hk]
      rfl
    clear h
    cases hp : powOk p with
    | false =>
      obtain rfl := pow_zero hp
      rw [stepA_off]
      go_enter Try.func19, Try.ntmps19
      go_wp2_with (first
        | (go_at_call 35; refine hfits.mono ?_; rintro e w1 ⟨rfl, rfl⟩)
        | (go_at_call 36; refine hA.mono ?_; rintro e w2 ⟨rfl, D2, C2⟩; have HD : Hid _ := And.intro D2 C2; clear D2 C2))
      go_ret
      exact ⟨rfl, Did.own HD.out.1 HD.out.2⟩
    | true =>
      rw [stepA_ok hp]
      rw [hp] at hA
      rcases hcase with ⟨v, hk, hs⟩ | ⟨hk, hl, hs⟩
      · simp only [hgv v hk]
        clear hgv hgn
        go_enter Try.func19, Try.ntmps19
        go_wp2_with (first
          | (go_at_call 35; refine hfits.mono ?_; rintro e w1 ⟨rfl, rfl⟩)
          | (go_at_call 36; refine hA.mono ?_; rintro e w2 ⟨rfl, D2, C2⟩; have HD : Hid _ := And.intro D2 C2; have F : Fw w2 B v := D2.fw _ hk; have hO := open_ok D2 hk; have m0 := F.c0; (obtain ⟨v', w4, hrun, h2, h3, h4⟩ := bytes_append F.row s hs (Nat.le_trans hB C2.size) 62); obtain ⟨a', c', rfl, -⟩ := row_slice h2; obtain ⟨m4, f4, F4, C4⟩ := F.grown h2 h3 h4; have HE : Hid _ := And.intro F4 (And.intro C4 h4); clear D2 C2 F h2 h3 h4 F4 C4)
          | (go_at_call 37; refine hO.mono ?_; rintro e w3 ⟨rfl, rfl⟩)
          | (at_builtin; refine Lib.wpList_append_run _ rfl _ _ _ _ rfl _ _ rfl rfl _ _ hrun ?_))
        go_ret
        refine ⟨rfl, ?_⟩
        exact Did.file HD.out.1 HD.out.2 hk HE.out.2.1 HE.out.1 rfl HE.out.2.2 (by rw [grown_all, ByteArray.size_append]; exact hs)
      · simp only [hgn hk]
        clear hgv hgn
        go_enter Try.func19, Try.ntmps19
        go_wp2_with (first
          | (go_at_call 35; refine hfits.mono ?_; rintro e w1 ⟨rfl, rfl⟩)
          | (go_at_call 36; refine hA.mono ?_; rintro e w2 ⟨rfl, D2, C2⟩; have HC2 : Hid _ := And.intro C2 trivial; have hB2 := Nat.le_trans hB C2.size; have hO := open_new D2 hk hk2 hl hB2; clear D2 C2)
          | (go_at_call 37; refine hO.mono ?_; rintro e w3 ⟨g, rfl, hOp⟩; have HO : Hid (Opened w2 B d es (powOf p) (false || !true) mo k g w3) := hOp; have F : Fw w3 B (nf g) := hOp.fw hr; have hB3 := Nat.le_trans hB2 hOp.size; have m0 : w3.cell? ⟨g, 0, none⟩ = some (.slice none 0 0) := F.c0; (obtain ⟨v', w4, hrun, h2, h3, h4⟩ := bytes_append (show w3.ownsRow B 5 1 (.slice none 0 0) (nf g).all.size (strCells (nf g).all) from F.row) s (by rw [nf_all]; show 0 + s.size ≤ _; omega) hB3 62); obtain ⟨a', c', rfl, -⟩ := row_slice h2; obtain ⟨m4, f4, F4, C4⟩ := F.grown h2 h3 h4; have m5 : w4.cell? ⟨g, 0, none⟩ = some (.slice none 0 0) := m4; have f5 : w4.frozen? ⟨g, 0, none⟩ = false := f4; have HE : Hid _ := And.intro F4 (And.intro C4 h4); clear hOp F h2 h3 h4 F4 C4 m4 f4)
          | (at_builtin; refine Lib.wpList_append_run _ rfl _ _ _ _ rfl _ _ rfl rfl _ _ hrun ?_))
        go_ret
        refine ⟨rfl, ?_⟩
        exact Did.grew HC2.out.1 hr HO.out hs HE.out.1 HE.out.2.1 HE.out.2.2
  · rw [stepA_no hno]
    have HD : Hid _ := Did.same h
    exact (Append_no h k s hz hno).mono (fun e w' he => ⟨he.1, by rw [he.2]; exact HD.out⟩)
end Go.Proofs.Ytedcabnjcbdkaaa

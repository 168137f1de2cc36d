/-
  Proved: for every kind, load, more and cut FrameBack answers true, and changes nothing that was there before the call: what was put is taken, whatever follows; and no beginning of it is a frame. No condition.
-/
import Derived.Test.YtbnfmaooailfeaaF5Shown
import Derived.Test.YtbnfmaooailfeaaF5Walk
import Derived.Test.YtbnfmaooailfeaaF5Args
namespace Go.Proofs.Ytbnfmaooailfeaa.frameBack
open Go.ChangeShapes Go.WideShapes Go.ChangeAt Go.RowKit
open Go.ChangeMaps (open_string shut_string)

variable (kind cut : Int) (l more : List UInt8) (w : World)
/-- what it is asked of, as a value -/
def arg : Value := .agg #[.int .i64 kind, .string (S l), .string (S more), .int .i64 cut]
def Goal : Prop := Calls Try.prog 6 #[arg kind cut l more] w fun r w' => r = .returned (.bool true) ∧ Below w.heap.size w w'

theorem up_below {w : World} {o : Obj} {w1 : World} (h : Below (w.alloc o).heap.size (w.alloc o) w1) : Below w.heap.size w w1 := bel_of ((Below.refl w.heap.size w).alloc (Nat.le_refl _) o) h (Nat.le_refl _)

set_option maxHeartbeats 4000000 in
set_option maxRecDepth 100000 in
theorem walkA (hl : l.length ≤ 140737488351232) (h : 65536 < l.length) : Goal kind cut l more w := by
  have hs := S_size l
  obtain ⟨k, hk⟩ := kind_of kind
  unfold Goal arg
  have h1' : (65536 : Int) < (l.length : Int) := by omega
  go_enter Try.func6, Try.ntmps6
  go_wp2_with (first
    | (go_at_call 9; refine (shown_any _).mono ?_; rintro e w1 ⟨rfl, b1⟩)
    | (go_at_call 10; refine (Put_long k l h (by omega) _).mono ?_; rintro e w2 ⟨rfl, rfl⟩))
  go_ret
  exact ⟨rfl, up_below b1⟩

set_option maxHeartbeats 4000000 in
set_option maxRecDepth 100000 in
theorem walkB (hl : l.length ≤ 65536) (hm : more.length ≤ 140737488351232) : Goal kind cut l more w := by
  have hs := S_size l
  have hsm := S_size more
  obtain ⟨k, hk⟩ := kind_of kind
  have hfl := frm_length k l
  have htp := txt_pos l
  have hf := S_size (frm k l)
  have h1' : ¬ (65536 : Int) < (l.length : Int) := by omega
  have h6 : (frm k l).length ≤ 65560 := by
    have := Lib.uvarint_length64 (show l.length < 18446744073709551616 by omega)
    have := txt_length l
    omega
  have hap : S (frm k l) ++ S more = S (frm k l ++ more) := S_append _ _
  have hal : (frm k l ++ more).length ≤ 281474976710656 := by rw [List.length_append]; omega
  have HA : ∀ w, _ := fun w => Take_any (frm k l ++ more) hal w
  rw [tak_back k l more hl] at HA
  unfold quad at HA
  simp only at HA
  clear hfl htp
  unfold Goal arg
  by_cases hc : cut < 0 ∨ ((frm k l).length : Int) ≤ cut
  · by_cases h0 : cut < 0
    · clear hc
      go_enter Try.func6, Try.ntmps6
      go_wp2_with (first
        | (go_at_call 9; refine (shown_any _).mono ?_; rintro e w1 ⟨rfl, b1⟩)
        | (go_at_call 10; refine (Put_any k l hl _).mono ?_; rintro e w2 ⟨rfl, b2⟩)
        | (go_at_call 14; refine (HA _).mono ?_; rintro e w3 ⟨rfl, b3⟩))
      go_ret
      exact ⟨rfl, bel_of (bel_of (up_below b1) b2 (Nat.le_refl _)) b3 (Nat.le_refl _)⟩
    · have h2 : ((frm k l).length : Int) ≤ cut := by omega
      clear hc
      go_enter Try.func6, Try.ntmps6
      go_wp2_with (first
        | (go_at_call 9; refine (shown_any _).mono ?_; rintro e w1 ⟨rfl, b1⟩)
        | (go_at_call 10; refine (Put_any k l hl _).mono ?_; rintro e w2 ⟨rfl, b2⟩)
        | (go_at_call 14; refine (HA _).mono ?_; rintro e w3 ⟨rfl, b3⟩))
      go_ret
      exact ⟨rfl, bel_of (bel_of (up_below b1) b2 (Nat.le_refl _)) b3 (Nat.le_refl _)⟩
  · obtain ⟨c, rfl⟩ : ∃ c : Nat, cut = (c : Int) := ⟨cut.toNat, by omega⟩
    have hcl : c < (frm k l).length := by omega
    have h0 : ¬ (c : Int) < 0 := by omega
    have h0' : (0 : Int) ≤ (c : Int) := by omega
    have h2 : ¬ ((frm k l).length : Int) ≤ (c : Int) := by omega
    have h3 : (c : Int) ≤ ((frm k l).length : Int) := by omega
    have h3' : c ≤ (frm k l).length := by omega
    have hx := S_take (frm k l) c
    have ht := tak_cut k l hl hcl
    have htl : ((frm k l).take c).length ≤ 281474976710656 := by rw [List.length_take]; omega
    have hg : god (fra ((frm k l).take c)) = 0 := by rw [fra_end (by rw [ht]; decide)]; rfl
    have HG : ∀ w, _ := fun w => Good_any ((frm k l).take c) htl w
    rw [hg] at HG
    have HC : ∀ w, _ := fun w => Take_any ((frm k l).take c) htl w
    generalize tak ((frm k l).take c) = r at ht HC
    obtain ⟨tc, ts, tn, te⟩ := r
    simp only at ht
    subst ht
    unfold quad at HC
    simp only at HC
    generalize (frm k l).take c = tk at *
    clear hc hg htl
    go_enter Try.func6, Try.ntmps6
    go_wp2_with (first
      | (go_at_call 9; refine (shown_any _).mono ?_; rintro e w1 ⟨rfl, b1⟩)
      | (go_at_call 10; refine (Put_any k l hl _).mono ?_; rintro e w2 ⟨rfl, b2⟩)
      | (go_at_call_of 14 (Value.string (S (frm k l ++ more))); refine (HA _).mono ?_; rintro e w3 ⟨rfl, b3⟩)
      | (go_at_call 14; refine (HC _).mono ?_; rintro e w4 ⟨rfl, b4⟩)
      | (go_at_call 18; refine (HG _).mono ?_; rintro e w5 ⟨rfl, b5⟩))
    go_ret
    exact ⟨rfl, bel_of (bel_of (bel_of (bel_of (up_below b1) b2 (Nat.le_refl _)) b3 (Nat.le_refl _)) b4 (Nat.le_refl _)) b5 (Nat.le_refl _)⟩

theorem walk (hl : l.length ≤ 140737488351232) (hm : more.length ≤ 140737488351232) : Goal kind cut l more w := by
  by_cases h : 65536 < l.length
  · exact walkA kind cut l more w hl h
  · exact walkB kind cut l more w (by omega) hm

theorem own : ownKnob Try.prog.godebug = none := by kernel_rfl
set_option maxRecDepth 100000 in
theorem lifted (os : Os) (started : os.Started) (H : Type) (enc : TypeId × Value → H) :
    ReturnsInHanded {} Try.checked os 6 .any (Rows.frameBackSpec.pre6 enc Try.prog Try.f6 Rows.frameBackRow.domain false) (Rows.frameBackSpec.post enc Try.prog Try.f6 false true false false) := by
  refine returnsInHanded_of_change_sized (C := Try.checked) own started (by kernel_rfl) Try.func6
    (ChangeSpec.witness6 (enc := enc) (C := Try.checked) false ⟨#[], #[.agg #[.int .i64 0, .string .empty, .string .empty, .int .i64 0]], []⟩ 8 (by kernel_rfl) (by kernel_rfl) (by kernel_rfl) (by kernel_rfl)) ?_
  intro W base args ds gs before hval0 hW hcnd hsz0 _
  have hval : ∀ (j : Nat) t v, Try.f6.params[j]? = some t → args[j]? = some v → Value.okWide Try.prog W .any base t v := hval0
  have hsz : (DataW.weightsEach Try.prog (Try.f6.params.toList ++ Rows.frameBackSpec.plain.varTypes Try.prog) (ds ++ gs)).all (· ≤ reachBytes) = true := hsz0
  have hW' := hW
  obtain ⟨p, q, hA0, hV, rfl, hfz, hnd⟩ := hW
  have hA : DataW.TrodAll enc Try.prog W 0 (fun _ => true) true Try.f6.params.toList args.toList ds p := hA0
  rw [Try.params6] at hA hval hsz
  obtain ⟨v0, vs0, d0, ds0, p0, q0, hargs, rfl, rfl, h0, r0⟩ := trodAll_cons hA
  obtain ⟨rfl, rfl, rfl⟩ := trodAll_nil r0
  obtain rfl : args = #[v0] := by cases args; simp_all
  obtain ⟨rfl, rfl⟩ := trodVars_none hV
  have k0 := h0
  have lt0 : ∀ x ∈ p0, x.block < W.heap.size := by obtain ⟨m, hm⟩ := k0; exact DataW.trod_lt m _ _ _ hm
  obtain ⟨c0, c1, c2, c3, y0, y1, y2, y3, m, rfl, rfl, _, t0, t1, t2, t3⟩ := Go.Joins.open_agg4 Try.underlying47 (by kernel_rfl) (by kernel_rfl) (hval 0 47 v0 rfl rfl) h0
  obtain ⟨a0, e0, rfl, w0⟩ := DataW.trod_int Try.underlying3 t0
  obtain ⟨a1, e1, rfl, w1⟩ := DataW.trod_string Try.underlying9 t1
  obtain ⟨a2, e2, rfl, w2⟩ := DataW.trod_string Try.underlying9 t2
  obtain ⟨a3, e3, rfl, w3⟩ := DataW.trod_int Try.underlying3 t3
  simp at e0 e1 e2 e3
  subst e0 e1 e2 e3
  have hlen := sized_agg_string hsz (i := 0) (j := 1) rfl rfl Try.underlying47 rfl rfl
  have hlen2 := sized_agg_string hsz (i := 0) (j := 2) rfl rfl Try.underlying47 rfl rfl
  simp only [reachBytes] at hlen hlen2
  clear hA0 hval0
  have hwk := walk a0 a3 a1.data.toList a2.data.toList W (by omega) (by omega)
  unfold Goal arg at hwk
  rw [S_of, S_of] at hwk
  refine hwk.mono fun e W' ⟨he, bel⟩ => ?_
  subst he
  exact ⟨_, rfl, _, _, _, [], _, [], hW', trodAll_mk1 (shut_bool Try.underlying4 _), (trodAll_cons_mk (Below.trod laidOut (by kernel_rfl) (of_decide_eq_true (by kernel_rfl)) k0 bel lt0) trodAll_mk0), rfl, bel.frame _, fun h => by cases h⟩

theorem proved : Rows.FrameBackSaid :=
  OpenClaim.holds_of_wide 6 Try.f6 rfl rfl rfl rfl rfl rfl rfl ⟨rfl, rfl, rfl, rfl, rfl⟩ rfl rfl rfl rfl rfl (by kernel_rfl) Try.func6 (by kernel_rfl)
    (of_decide_eq_true (by kernel_rfl)) (by unfold Func.isWrapper; first | (rw [if_pos (by decide +kernel)]; kernel_rfl) | (rw [if_neg (by decide +kernel)]; exact ⟨rfl, rfl⟩))
    (fun os started H enc _ => lifted os started H enc)
end Go.Proofs.Ytbnfmaooailfeaa.frameBack

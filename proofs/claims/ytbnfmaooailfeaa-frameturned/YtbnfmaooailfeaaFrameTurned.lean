/-
  Proved: for every kind, load, place and bit FrameTurned answers true, and changes nothing that was there before the call: a frame of whose sum, kind or load one bit is another one is refused. No condition.
-/
import Derived.Test.YtbnfmaooailfeaaF5Shown
import Derived.Test.YtbnfmaooailfeaaF5Bytes
import Derived.Test.YtbnfmaooailfeaaF5Args
namespace Go.Proofs.Ytbnfmaooailfeaa.frameTurned
open Go.ChangeShapes Go.WideShapes Go.ChangeAt Go.RowKit
open Go.ChangeMaps (open_string shut_string)

variable (kind place bit : Int) (l : List UInt8) (w : World)
/-- what it is asked of, as a value -/
def arg : Value := .agg #[.int .i64 kind, .string (S l), .int .i64 place, .int .i64 bit]
def Goal : Prop := Calls Try.prog 7 #[arg kind place bit l] w fun r w' => r = .returned (.bool true) ∧ Below w.heap.size w w'

theorem up_below {w : World} {o : Obj} {w1 : World} (h : Below (w.alloc o).heap.size (w.alloc o) w1) : Below w.heap.size w w1 := bel_of ((Below.refl w.heap.size w).alloc (Nat.le_refl _) o) h (Nat.le_refl _)

set_option maxHeartbeats 4000000 in
set_option maxRecDepth 100000 in
theorem walkA (hl : l.length ≤ 140737488351232) (h : 65536 < l.length ∨ place < 0 ∨ bit < 0 ∨ 7 < bit) : Goal kind place bit l w := by
  have hs := S_size l
  unfold Goal arg
  by_cases h1 : 65536 < l.length
  · have h1' : (65536 : Int) < (l.length : Int) := by omega
    go_enter Try.func7, Try.ntmps7
    go_wp2_with (go_at_call 9; refine (shown_any _).mono ?_; rintro e w1 ⟨rfl, b1⟩)
    go_ret
    exact ⟨rfl, up_below b1⟩
  · have h1' : ¬ (65536 : Int) < (l.length : Int) := by omega
    by_cases h2 : place < 0
    · go_enter Try.func7, Try.ntmps7
      go_wp2_with (go_at_call 9; refine (shown_any _).mono ?_; rintro e w1 ⟨rfl, b1⟩)
      go_ret
      exact ⟨rfl, up_below b1⟩
    · by_cases h3 : bit < 0
      · go_enter Try.func7, Try.ntmps7
        go_wp2_with (go_at_call 9; refine (shown_any _).mono ?_; rintro e w1 ⟨rfl, b1⟩)
        go_ret
        exact ⟨rfl, up_below b1⟩
      · have h4 : 7 < bit := by omega
        clear h
        go_enter Try.func7, Try.ntmps7
        go_wp2_with (go_at_call 9; refine (shown_any _).mono ?_; rintro e w1 ⟨rfl, b1⟩)
        go_ret
        exact ⟨rfl, up_below b1⟩

set_option maxHeartbeats 4000000 in
set_option maxRecDepth 100000 in
theorem walkB (p : Nat) (bt : Nat) (hb : bt ≤ 7) (hl : l.length ≤ 65536) (k : UInt8) (hk : kind % 256 = (k.toNat : Int)) (h : (frm k l).length ≤ p ∨ (4 < p ∧ p < (frm k l).length - l.length)) : Goal kind p bt l w := by
  have hs := S_size l
  have hf := S_size (frm k l)
  have hfl := frm_length k l
  have htp := txt_pos l
  have h1' : ¬ (65536 : Int) < (l.length : Int) := by omega
  have h2 : ¬ (p : Int) < 0 := by omega
  have h3 : ¬ (bt : Int) < 0 := by omega
  have h4 : ¬ (7 : Int) < (bt : Int) := by omega
  have h5 : ¬ ((frm k l).length : Int) < 6 + (l.length : Int) := by omega
  have h6 : (frm k l).length ≤ 65560 := by
    have := Lib.uvarint_length64 (show l.length < 18446744073709551616 by omega)
    have := txt_length l
    omega
  have HF : Hid ((frm k l).length = 5 + (txt l).length ∧ l.length + 1 ≤ (txt l).length) := ⟨hfl, htp⟩
  generalize hn : (frm k l).length = n at *
  unfold Goal arg
  clear hfl htp hn
  by_cases h7 : n ≤ p
  · have h7' : (n : Int) ≤ (p : Int) := by omega
    clear h
    go_enter Try.func7, Try.ntmps7
    go_wp2_with (first
      | (go_at_call 9; refine (shown_any _).mono ?_; rintro e w1 ⟨rfl, b1⟩)
      | (go_at_call 10; refine (Put_any k l hl _).mono ?_; rintro e w2 ⟨rfl, b2⟩))
    go_ret
    exact ⟨rfl, bel_of (up_below b1) b2 (Nat.le_refl _)⟩
  · have h7' : ¬ (n : Int) ≤ (p : Int) := by omega
    have h8 : (4 : Int) < (p : Int) := by omega
    have h9 : (p : Int) < (n : Int) - (l.length : Int) := by have := HF.out; omega
    clear h
    go_enter Try.func7, Try.ntmps7
    go_wp2_with (first
      | (go_at_call 9; refine (shown_any _).mono ?_; rintro e w1 ⟨rfl, b1⟩)
      | (go_at_call 10; refine (Put_any k l hl _).mono ?_; rintro e w2 ⟨rfl, b2⟩))
    go_ret
    exact ⟨rfl, bel_of (up_below b1) b2 (Nat.le_refl _)⟩

set_option maxHeartbeats 4000000 in
set_option maxRecDepth 100000 in
theorem walkC (p : Nat) (bt : Nat) (hb : bt ≤ 7) (hl : l.length ≤ 65536) (k : UInt8) (hk : kind % 256 = (k.toNat : Int)) (hp : p < (frm k l).length) (h : p ≤ 4 ∨ (frm k l).length - l.length ≤ p) : Goal kind p bt l w := by
  have hs := S_size l
  have hf := S_size (frm k l)
  have hfl := frm_length k l
  have htp := txt_pos l
  have h1' : ¬ (65536 : Int) < (l.length : Int) := by omega
  have h2 : ¬ (p : Int) < 0 := by omega
  have h3 : ¬ (bt : Int) < 0 := by omega
  have h4 : ¬ (7 : Int) < (bt : Int) := by omega
  have h5 : ¬ ((frm k l).length : Int) < 6 + (l.length : Int) := by omega
  have h6 : (frm k l).length ≤ 65560 := by
    have := Lib.uvarint_length64 (show l.length < 18446744073709551616 by omega)
    have := txt_length l
    omega
  obtain ⟨a, b, hab, hal, hset⟩ := split_at (frm k l) hp
  have hm : 0 < 2 ^ bt ∧ 2 ^ bt < 256 := ⟨Nat.two_pow_pos bt, Nat.lt_of_le_of_lt (Nat.pow_le_pow_right (by decide) hb) (by decide)⟩
  obtain ⟨y, hy, hxy⟩ := turned (x := (frm k l)[p]) hm.1 hm.2
  have ht := tak_turned k l hl hab hxy (by rw [hal]; exact h)
  rw [← hset y] at ht
  have hsl : ((frm k l).set p y).length = (frm k l).length := List.length_set
  have HA : ∀ w, _ := fun w => Take_any ((frm k l).set p y) (by omega) w
  obtain ⟨⟨tc, ts, tn, te⟩, hr⟩ : ∃ r, tak ((frm k l).set p y) = r := ⟨_, rfl⟩
  rw [hr] at ht HA
  simp only at ht
  subst ht
  unfold quad at HA
  simp only at HA
  have hpw : (2 : Int) ^ bt % 256 = ((2 ^ bt : Nat) : Int) := by
    rw [Int.natCast_pow]
    exact Int.emod_eq_of_lt (Int.le_of_lt (Int.pow_pos (by decide))) (by have := Int.ofNat_lt.2 hm.2; rw [Int.natCast_pow] at this; exact this)
  rw [← hpw] at hy
  have hnl : (frm k l).length - l.length = 5 + (txt l).length - l.length := by omega
  have HF : Hid ((frm k l).length = 5 + (txt l).length ∧ l.length + 1 ≤ (txt l).length) := ⟨hfl, htp⟩
  have hp0 : (p : Int) < ((frm k l).length : Int) := by omega
  have hp1 : ¬ ((frm k l).length : Int) ≤ (p : Int) := by omega
  have hml : (frm k l).length ≤ maxLen := by unfold maxLen; omega
  clear hab hal hset hxy hm hfl htp hnl hr hpw
  unfold Goal arg
  by_cases h8 : p ≤ 4
  · have h8' : ¬ (4 : Int) < (p : Int) := by omega
    clear h
    go_enter Try.func7, Try.ntmps7
    go_wp2_with (first
      | (go_at_call 9; refine (shown_any _).mono ?_; rintro e w1 ⟨rfl, b1⟩)
      | (go_at_call 10; refine (Put_any k l hl _).mono ?_; rintro e w2 ⟨rfl, b2⟩; obtain ⟨W, cap, hcv, hB, b3⟩ := bytes_new w2 (frm k l) hml; have hcl := hB.cell p hp; have hfr := hB.fro p hp; have hcv2 := (hB.set hp (y := y) rfl).conv (cap := cap); rw [hsl] at hcv2; clear hB)
      | (go_at_call 14; refine (HA _).mono ?_; rintro e w3 ⟨rfl, b4⟩))
    go_ret
    exact ⟨rfl, bel_of ((bel_of (bel_of (up_below b1) b2 (Nat.le_refl _)) b3 (Nat.le_refl _)).setCell (by have := (bel_of (up_below b1) b2 (Nat.le_refl _)).size; exact this) _) b4 (Nat.le_refl _)⟩
  · have h8' : (4 : Int) < (p : Int) := by omega
    have h9 : ¬ (p : Int) < ((frm k l).length : Int) - (l.length : Int) := by have := HF.out; omega
    clear h
    go_enter Try.func7, Try.ntmps7
    go_wp2_with (first
      | (go_at_call 9; refine (shown_any _).mono ?_; rintro e w1 ⟨rfl, b1⟩)
      | (go_at_call 10; refine (Put_any k l hl _).mono ?_; rintro e w2 ⟨rfl, b2⟩; obtain ⟨W, cap, hcv, hB, b3⟩ := bytes_new w2 (frm k l) hml; have hcl := hB.cell p hp; have hfr := hB.fro p hp; have hcv2 := (hB.set hp (y := y) rfl).conv (cap := cap); rw [hsl] at hcv2; clear hB)
      | (go_at_call 14; refine (HA _).mono ?_; rintro e w3 ⟨rfl, b4⟩))
    go_ret
    exact ⟨rfl, bel_of ((bel_of (bel_of (up_below b1) b2 (Nat.le_refl _)) b3 (Nat.le_refl _)).setCell (by have := (bel_of (up_below b1) b2 (Nat.le_refl _)).size; exact this) _) b4 (Nat.le_refl _)⟩

theorem walk (hl : l.length ≤ 140737488351232) : Goal kind place bit l w := by
  by_cases h : 65536 < l.length ∨ place < 0 ∨ bit < 0 ∨ 7 < bit
  · exact walkA kind place bit l w hl h
  · obtain ⟨p, rfl⟩ : ∃ p : Nat, place = (p : Int) := ⟨place.toNat, by omega⟩
    obtain ⟨bt, rfl⟩ : ∃ p : Nat, bit = (p : Int) := ⟨bit.toNat, by omega⟩
    obtain ⟨k, hk⟩ := kind_of kind
    by_cases h2 : (frm k l).length ≤ p ∨ (4 < p ∧ p < (frm k l).length - l.length)
    · exact walkB kind l w p bt (by omega) (by omega) k hk h2
    · exact walkC kind l w p bt (by omega) (by omega) k hk (by omega) (by omega)

theorem own : ownKnob Try.prog.godebug = none := by kernel_rfl
set_option maxRecDepth 100000 in
theorem lifted (os : Os) (started : os.Started) (H : Type) (enc : TypeId × Value → H) :
    ReturnsInHanded {} Try.checked os 7 .any (Rows.frameTurnedSpec.pre6 enc Try.prog Try.f7 Rows.frameTurnedRow.domain false) (Rows.frameTurnedSpec.post enc Try.prog Try.f7 false true false false) := by
  refine returnsInHanded_of_change_sized (C := Try.checked) own started (by kernel_rfl) Try.func7
    (ChangeSpec.witness6 (enc := enc) (C := Try.checked) false ⟨#[], #[.agg #[.int .i64 0, .string .empty, .int .i64 0, .int .i64 0]], []⟩ 8 (by kernel_rfl) (by kernel_rfl) (by kernel_rfl) (by kernel_rfl)) ?_
  intro W base args ds gs before hval0 hW hcnd hsz0 _
  have hval : ∀ (j : Nat) t v, Try.f7.params[j]? = some t → args[j]? = some v → Value.okWide Try.prog W .any base t v := hval0
  have hsz : (DataW.weightsEach Try.prog (Try.f7.params.toList ++ Rows.frameTurnedSpec.plain.varTypes Try.prog) (ds ++ gs)).all (· ≤ reachBytes) = true := hsz0
  have hW' := hW
  obtain ⟨p, q, hA0, hV, rfl, hfz, hnd⟩ := hW
  have hA : DataW.TrodAll enc Try.prog W 0 (fun _ => true) true Try.f7.params.toList args.toList ds p := hA0
  rw [Try.params7] at hA hval hsz
  obtain ⟨v0, vs0, d0, ds0, p0, q0, hargs, rfl, rfl, h0, r0⟩ := trodAll_cons hA
  obtain ⟨rfl, rfl, rfl⟩ := trodAll_nil r0
  obtain rfl : args = #[v0] := by cases args; simp_all
  obtain ⟨rfl, rfl⟩ := trodVars_none hV
  have k0 := h0
  have lt0 : ∀ x ∈ p0, x.block < W.heap.size := by obtain ⟨m, hm⟩ := k0; exact DataW.trod_lt m _ _ _ hm
  obtain ⟨c0, c1, c2, c3, y0, y1, y2, y3, m, rfl, rfl, _, t0, t1, t2, t3⟩ := Go.Joins.open_agg4 Try.underlying50 (by kernel_rfl) (by kernel_rfl) (hval 0 50 v0 rfl rfl) h0
  obtain ⟨a0, e0, rfl, w0⟩ := DataW.trod_int Try.underlying3 t0
  obtain ⟨a1, e1, rfl, w1⟩ := DataW.trod_string Try.underlying9 t1
  obtain ⟨a2, e2, rfl, w2⟩ := DataW.trod_int Try.underlying3 t2
  obtain ⟨a3, e3, rfl, w3⟩ := DataW.trod_int Try.underlying3 t3
  simp at e0 e1 e2 e3
  subst e0 e1 e2 e3
  have hlen := sized_agg_string hsz (i := 0) (j := 1) rfl rfl Try.underlying50 rfl rfl
  simp only [reachBytes] at hlen
  clear hA0 hval0
  have hwk := walk a0 a2 a3 a1.data.toList W (by omega)
  unfold Goal arg at hwk
  rw [S_of] at hwk
  refine hwk.mono fun e W' ⟨he, bel⟩ => ?_
  subst he
  exact ⟨_, rfl, _, _, _, [], _, [], hW', trodAll_mk1 (shut_bool Try.underlying4 _), (trodAll_cons_mk (Below.trod laidOut (by kernel_rfl) (of_decide_eq_true (by kernel_rfl)) k0 bel lt0) trodAll_mk0), rfl, bel.frame _, fun h => by cases h⟩

theorem proved : Rows.FrameTurnedSaid :=
  OpenClaim.holds_of_wide 7 Try.f7 rfl rfl rfl rfl rfl rfl rfl ⟨rfl, rfl, rfl, rfl, rfl⟩ rfl rfl rfl rfl rfl (by kernel_rfl) Try.func7 (by kernel_rfl)
    (of_decide_eq_true (by kernel_rfl)) (by unfold Func.isWrapper; first | (rw [if_pos (by decide +kernel)]; kernel_rfl) | (rw [if_neg (by decide +kernel)]; exact ⟨rfl, rfl⟩))
    (fun os started H enc _ => lifted os started H enc)
end Go.Proofs.Ytbnfmaooailfeaa.frameTurned

/-
  Proved: for every block's size, slice of rows, cut and key RunBack answers true, and changes nothing that was there before the call: what was built is opened and told as it was, from any key; and no beginning of it is a run. No condition.
-/
import Derived.Test.YtiflkgpdomippaaH7Told
import Derived.Test.YtiflkgpdomippaaH7Args
import Derived.Lib.SmallJoins
namespace Go.Proofs.Ytiflkgpdomippaa.runBack
open Go.ChangeShapes Go.WideShapes Go.ChangeAt Go.RowKit
open Go.ChangeMaps (open_string shut_string)

/-- no beginning of a run is one -/
theorem no_cut {bs bs' : List (List R7)} {n : Nat} (h : Rn (rn bs) bs) (hn : n < (rn bs).length) (h' : Rn ((rn bs).take n) bs') : False := by
  obtain ⟨-, g1, -, g2⟩ := h
  obtain ⟨e, g3, -, g4⟩ := h'
  have e2 := List.take_append_drop n (rn bs)
  rw [e] at e2
  have e3 : fbs bs' ++ (frm 3 (ix bs') ++ (four (frm 3 (ix bs')).length ++ (rn bs).drop n)) = fbs bs ++ (frm 3 (ix bs) ++ four (frm 3 (ix bs)).length) := by
    have : rn bs = fbs bs ++ (frm 3 (ix bs) ++ four (frm 3 (ix bs)).length) := rfl
    rw [← this]
    refine Eq.trans ?_ e2
    simp [rn, tl]
  obtain ⟨q, hq, hr⟩ := head_run bs' bs g3 g1 g2 e3
  cases q with
  | nil =>
    rw [List.append_nil] at hq
    subst hq
    have := congrArg List.length e
    rw [List.length_take] at this
    omega
  | cons y t =>
    rw [fbs_cons, List.append_assoc] at hr
    exact fb_tl (g1 y (by rw [hq]; simp)) g4 hr.symm

variable (block cut : Int) (l : List R7) (k : List UInt8) (w : World)
/-- what it is asked of, as a value -/
def arg (v : Value) : Value := .agg #[.int .i64 block, v, .int .i64 cut, .string (S k)]
def Goal (v : Value) : Prop := Calls Try.prog 5 #[arg block cut k v] w fun r w' => r = .returned (.bool true) ∧ Below w.heap.size w w'

theorem up_below {w : World} {o : Obj} {w1 : World} (h : Below (w.alloc o).heap.size (w.alloc o) w1) : Below w.heap.size w w1 := bel_of ((Below.refl w.heap.size w).alloc (Nat.le_refl _) o) h (Nat.le_refl _)

set_option maxHeartbeats 4000000 in
set_option maxRecDepth 100000 in
theorem walkA {v : Value} (hv : Rw7 w v l) (hn : l.length * 40 ≤ 140737488355328) (hs : Sm7 l) (h1 : (bld block l).2 ≠ 0) : Goal block cut k w v := by
  have HB1 : ∀ (w2 : World), Below w.heap.size w w2 → Calls Try.prog 10 #[.int .i64 block, v] w2 _ := fun w2 hb => built_any block (hv.up hb) hn hs
  obtain ⟨va, cap, rfl, -⟩ := hv
  unfold Goal arg
  generalize (bld block l).1 = s1 at *
  generalize (bld block l).2 = e1 at *
  have hne : ((e1 : Int) != 0) = true := by rw [bne_iff_ne]; omega
  clear h1
  go_enter Try.func5, Try.ntmps5
  go_wp2_with (first
    | (go_at_call 9; refine (shown_any _).mono ?_; rintro e w1 ⟨rfl, b1⟩; have B1 : Hid (Below w.heap.size w w1) := up_below b1; clear b1)
    | (go_at_call 10; refine (HB1 w1 B1.out).mono ?_; rintro e w2 ⟨rfl, b2⟩; (have B2 : Hid (Below w.heap.size w w2) := bel_of B1.out b2 (Nat.le_refl _)); clear b2))
  go_ret
  exact ⟨rfl, B2.out⟩

set_option maxHeartbeats 4000000 in
set_option maxRecDepth 100000 in
theorem walkB {v : Value} (hv : Rw7 w v l) (hn : l.length * 40 ≤ 140737488355328) (hs : Sm7 l) (hk : k.length ≤ 140737488355328) (h1 : (bld block l).2 = 0) : Goal block cut k w v := by
  have HB1 : ∀ (w2 : World), Below w.heap.size w w2 → Calls Try.prog 10 #[.int .i64 block, v] w2 _ := fun w2 hb => built_any block (hv.up hb) hn hs
  have HV : Hid (∀ w2, Below w.heap.size w w2 → Rw7 w2 v l) := fun w2 hb => hv.up hb
  obtain ⟨va, cap, rfl, -⟩ := hv
  unfold Goal arg
  obtain ⟨bs, p1, p2, p3, p4, p5, -, -, p8⟩ := bld_ok h1
  have hm := flt_may p8
  have HO1 : ∀ w, _ := fun w => Open_any (rn bs) (by omega) w
  have HX1 : Hid (∀ w e w', OpR w (rn bs) e w' → ∃ r v b1 b2, e = .returned (.tuple #[.pointer (some ⟨r, 0, none⟩), .int .i64 0]) ∧ Ru w' w.heap.size r l bs.length v b1 b2) := fun w e w' h => h.elim (fun ⟨bs', r, v, b1, b2, _, g2, g3, g4, _⟩ => ⟨r, v, b1, b2, g3, by rw [← p4, p2.one g2]; exact g4⟩) (fun h => absurd ⟨p3, _, p2⟩ h.1)
  have HT0 : Hid (∀ w2 B r n b1 b2 u, Below w.heap.size w w2 → Ru w2 B r l n u b1 b2 → Calls Try.prog 14 #[.pointer (some ⟨r, 0, none⟩), .slice va l.length cap, .string ⟨#[]⟩] w2 fun e w' => e = .returned (.bool true) ∧ Below w2.heap.size w2 w') := fun w2 B r n b1 b2 u hb hu => told_any hu (HV.out w2 hb) ⟨#[]⟩ (by decide) hm
  have HT1 : Hid (∀ w2 B r n b1 b2 u, Below w.heap.size w w2 → Ru w2 B r l n u b1 b2 → Calls Try.prog 14 #[.pointer (some ⟨r, 0, none⟩), .slice va l.length cap, .string (S k)] w2 fun e w' => e = .returned (.bool true) ∧ Below w2.heap.size w2 w') := fun w2 B r n b1 b2 u hb hu => told_any hu (HV.out w2 hb) (S k) (by rw [S_size]; omega) hm
  rw [p1, h1] at HB1
  have hsz := S_size (rn bs)
  by_cases hc : cut < 0 ∨ ((rn bs).length : Int) ≤ cut
  · generalize rn bs = s1 at *
    have hcc : cut < 0 ∨ (¬ cut < 0 ∧ (s1.length : Int) ≤ cut) := by omega
    clear p1 p2 p4 p5 p8 h1 hm hc
    rcases hcc with h0 | ⟨h0, h2⟩
    · have h0' : ¬ 0 ≤ cut := by omega
      go_enter Try.func5, Try.ntmps5
      go_wp2_with (first
        | (go_at_call 9; refine (shown_any _).mono ?_; rintro e w1 ⟨rfl, b1⟩; have B1 : Hid (Below w.heap.size w w1) := up_below b1; clear b1)
        | (go_at_call 10; refine (HB1 w1 B1.out).mono ?_; rintro e w2 ⟨rfl, b2⟩; (have B2 : Hid (Below w.heap.size w w2) := bel_of B1.out b2 (Nat.le_refl _)); clear b2 HB1)
        | (go_at_call_of 12 (Value.string (S s1)); refine (HO1 w2).mono ?_; rintro e w3 ⟨b3, op⟩; obtain ⟨r, u, x1, x2, he, hu⟩ := HX1.out w2 e w3 op; subst he; (have B3 : Hid (Below w.heap.size w w3) := bel_of B2.out b3 (Nat.le_refl _)); have U3 : Hid (Ru w3 w2.heap.size r l bs.length u x1 x2) := hu; clear b3 op hu HO1 HX1)
        | (go_at_call 16; refine (Len_any U3.out).mono ?_; rintro e w4 ⟨rfl, hw4⟩; subst hw4)
        | (go_at_call_of 14 (Value.string ⟨#[]⟩); refine (HT0.out _ _ _ _ _ _ _ B3.out U3.out).mono ?_; rintro e w5 ⟨rfl, b5⟩; (have B5 : Hid (Below w.heap.size w w5) := bel_of B3.out b5 (Nat.le_refl _)); (have U5 : Hid (Ru w5 w2.heap.size r l bs.length u x1 x2) := U3.out.below b5); clear b5 HT0)
        | (go_at_call 14; refine (HT1.out _ _ _ _ _ _ _ B5.out U5.out).mono ?_; rintro e w6 ⟨rfl, b6⟩; (have B6 : Hid (Below w.heap.size w w6) := bel_of B5.out b6 (Nat.le_refl _)); clear b6))
      go_ret
      exact ⟨rfl, B6.out⟩
    · have h0' : 0 ≤ cut := by omega
      have h2' : ¬ cut < (s1.length : Int) := by omega
      go_enter Try.func5, Try.ntmps5
      go_wp2_with (first
        | (go_at_call 9; refine (shown_any _).mono ?_; rintro e w1 ⟨rfl, b1⟩; have B1 : Hid (Below w.heap.size w w1) := up_below b1; clear b1)
        | (go_at_call 10; refine (HB1 w1 B1.out).mono ?_; rintro e w2 ⟨rfl, b2⟩; (have B2 : Hid (Below w.heap.size w w2) := bel_of B1.out b2 (Nat.le_refl _)); clear b2 HB1)
        | (go_at_call_of 12 (Value.string (S s1)); refine (HO1 w2).mono ?_; rintro e w3 ⟨b3, op⟩; obtain ⟨r, u, x1, x2, he, hu⟩ := HX1.out w2 e w3 op; subst he; (have B3 : Hid (Below w.heap.size w w3) := bel_of B2.out b3 (Nat.le_refl _)); have U3 : Hid (Ru w3 w2.heap.size r l bs.length u x1 x2) := hu; clear b3 op hu HO1 HX1)
        | (go_at_call 16; refine (Len_any U3.out).mono ?_; rintro e w4 ⟨rfl, hw4⟩; subst hw4)
        | (go_at_call_of 14 (Value.string ⟨#[]⟩); refine (HT0.out _ _ _ _ _ _ _ B3.out U3.out).mono ?_; rintro e w5 ⟨rfl, b5⟩; (have B5 : Hid (Below w.heap.size w w5) := bel_of B3.out b5 (Nat.le_refl _)); (have U5 : Hid (Ru w5 w2.heap.size r l bs.length u x1 x2) := U3.out.below b5); clear b5 HT0)
        | (go_at_call 14; refine (HT1.out _ _ _ _ _ _ _ B5.out U5.out).mono ?_; rintro e w6 ⟨rfl, b6⟩; (have B6 : Hid (Below w.heap.size w w6) := bel_of B5.out b6 (Nat.le_refl _)); clear b6))
      go_ret
      exact ⟨rfl, B6.out⟩
  · obtain ⟨c, rfl⟩ : ∃ c : Nat, cut = (c : Int) := ⟨cut.toNat, by omega⟩
    have hcl : c < (rn bs).length := by omega
    have h0 : ¬ (c : Int) < 0 := by omega
    have h0' : (0 : Int) ≤ (c : Int) := by omega
    have h2 : (c : Int) < ((rn bs).length : Int) := by omega
    have h3 : (c : Int) ≤ ((rn bs).length : Int) := by omega
    have h3' : c ≤ (rn bs).length := by omega
    have hx := S_take (rn bs) c
    have HO2 : ∀ w, _ := fun w => Open_any ((rn bs).take c) (by rw [List.length_take]; omega) w
    have HX2 : Hid (∀ w e w', OpR w ((rn bs).take c) e w' → e = .returned (.tuple #[.pointer none, .int .i64 3])) := fun w e w' h => h.elim (fun ⟨bs', r, v, b1, b2, _, g2, _⟩ => (no_cut p2 hcl g2).elim) (fun h => h.2)
    generalize (rn bs).take c = tk at *
    generalize rn bs = s1 at *
    clear p1 p2 p4 p5 p8 h1 hm hc
    go_enter Try.func5, Try.ntmps5
    go_wp2_with (first
      | (go_at_call 9; refine (shown_any _).mono ?_; rintro e w1 ⟨rfl, b1⟩; have B1 : Hid (Below w.heap.size w w1) := up_below b1; clear b1)
      | (go_at_call 10; refine (HB1 w1 B1.out).mono ?_; rintro e w2 ⟨rfl, b2⟩; (have B2 : Hid (Below w.heap.size w w2) := bel_of B1.out b2 (Nat.le_refl _)); clear b2 HB1)
      | (go_at_call_of 12 (Value.string (S s1)); refine (HO1 w2).mono ?_; rintro e w3 ⟨b3, op⟩; obtain ⟨r, u, x1, x2, he, hu⟩ := HX1.out w2 e w3 op; subst he; (have B3 : Hid (Below w.heap.size w w3) := bel_of B2.out b3 (Nat.le_refl _)); have U3 : Hid (Ru w3 w2.heap.size r l bs.length u x1 x2) := hu; clear b3 op hu HO1 HX1)
      | (go_at_call 16; refine (Len_any U3.out).mono ?_; rintro e w4 ⟨rfl, hw4⟩; subst hw4)
      | (go_at_call_of 14 (Value.string ⟨#[]⟩); refine (HT0.out _ _ _ _ _ _ _ B3.out U3.out).mono ?_; rintro e w5 ⟨rfl, b5⟩; (have B5 : Hid (Below w.heap.size w w5) := bel_of B3.out b5 (Nat.le_refl _)); (have U5 : Hid (Ru w5 w2.heap.size r l bs.length u x1 x2) := U3.out.below b5); clear b5 HT0)
      | (go_at_call 14; refine (HT1.out _ _ _ _ _ _ _ B5.out U5.out).mono ?_; rintro e w6 ⟨rfl, b6⟩; (have B6 : Hid (Below w.heap.size w w6) := bel_of B5.out b6 (Nat.le_refl _)); clear b6)
      | (go_at_call 12; refine (HO2 _).mono ?_; rintro e w7 ⟨b7, op⟩; have he := HX2.out _ e w7 op; subst he; (have B7 : Hid (Below w.heap.size w w7) := bel_of B6.out b7 (Nat.le_refl _)); clear b7 op))
    go_ret
    exact ⟨rfl, B7.out⟩

theorem walk {v : Value} (hv : Rw7 w v l) (hn : l.length * 40 ≤ 140737488355328) (hs : Sm7 l) (hk : k.length ≤ 140737488355328) : Goal block cut k w v := by
  by_cases h1 : (bld block l).2 = 0
  · exact walkB block cut l k w hv hn hs hk h1
  · exact walkA block cut l k w hv hn hs h1

theorem sized_part {H : Type} {P : Program} {ts : List TypeId} {ds : List (DataW H)} (h : (DataW.weightsEach P ts ds).all (· ≤ reachBytes) = true) {i : Nat} {t : TypeId} {fs : Array Field} {parts : List (DataW H)} (ht : ts[i]? = some t) (hd : ds[i]? = some (.agg parts)) (hu : P.underlying t = some (.struct fs))
    {j : Nat} {u : TypeId} {d : DataW H} (hj : (fs.toList.map (·.type))[j]? = some u) (hp : parts[j]? = some d) : (d.weights P u).all (· ≤ reachBytes) = true := by
  have h1 := sized_at h ht hd
  simp only [DataW.weights, hu] at h1
  exact sized_at h1 hj hp

set_option maxRecDepth 100000 in
theorem lifted (os : Os) (started : os.Started) (H : Type) (enc : TypeId × Value → H) :
    ReturnsInHanded {} Try.checked os 5 .any (Rows.runBackSpec.pre6 enc Try.prog Try.f5 Rows.runBackRow.domain false) (Rows.runBackSpec.post enc Try.prog Try.f5 false true false false) := by
  refine returnsInHanded_of_change_sized (C := Try.checked) own started (by kernel_rfl) Try.func5
    (ChangeSpec.witness6 (enc := enc) (C := Try.checked) false ⟨#[], #[.agg #[.int .i64 0, .slice none 0 0, .int .i64 0, .string .empty]], []⟩ 8 (by kernel_rfl) (by kernel_rfl) (by kernel_rfl) (by kernel_rfl)) ?_
  intro W base args ds gs before hval0 hW hcnd hsz0 _
  have hval : ∀ (j : Nat) t v, Try.f5.params[j]? = some t → args[j]? = some v → Value.okWide Try.prog W .any base t v := hval0
  have hsz : (DataW.weightsEach Try.prog (Try.f5.params.toList ++ Rows.runBackSpec.plain.varTypes Try.prog) (ds ++ gs)).all (· ≤ reachBytes) = true := hsz0
  have hW' := hW
  obtain ⟨p, q, hA0, hV, rfl, hfz, hnd⟩ := hW
  have hA : DataW.TrodAll enc Try.prog W 0 (fun _ => true) true Try.f5.params.toList args.toList ds p := hA0
  rw [Try.params5] at hA hval hsz
  obtain ⟨v0, vs0, d0, ds0, p0, q0, hargs, rfl, rfl, h0, r0⟩ := trodAll_cons hA
  obtain ⟨rfl, rfl, rfl⟩ := trodAll_nil r0
  obtain rfl : args = #[v0] := by cases args; simp_all
  obtain ⟨rfl, rfl⟩ := trodVars_none hV
  have k0 := h0
  have lt0 : ∀ x ∈ p0, x.block < W.heap.size := by obtain ⟨m, hm⟩ := k0; exact DataW.trod_lt m _ _ _ hm
  obtain ⟨c0, c1, c2, c3, y0, y1, y2, y3, m, rfl, rfl, _, t0, t1, t2, t3⟩ := Go.Joins.open_agg4 Try.underlying45 (by kernel_rfl) (by kernel_rfl) (hval 0 45 v0 rfl rfl) h0
  obtain ⟨a0, e0, g0, w0⟩ := DataW.trod_int Try.underlying3 t0
  obtain ⟨a2, e2, g2, w2⟩ := DataW.trod_int Try.underlying3 t2
  obtain ⟨a3, e3, g3, w3⟩ := DataW.trod_string Try.underlying9 t3
  obtain ⟨a, len, cap, rfl⟩ : ∃ a len cap, c1 = .slice a len cap := by
    rcases Deep.open_slice Try.underlying22 t1 with ⟨hcs, _⟩ | ⟨x', l', c', _, _, _, _, hcs, _⟩
    · simp at hcs; exact ⟨_, _, _, hcs⟩
    · simp at hcs; exact ⟨_, _, _, hcs⟩
  obtain ⟨l, hl, hl2, -⟩ := openRows7F (x := y1) t1
  simp at e0 e2 e3
  subst e0 e2 e3
  obtain ⟨hn, hs⟩ := hl2 (sized_part hsz (i := 0) (j := 1) rfl rfl Try.underlying45 rfl rfl)
  have hlen : a3.data.toList.length ≤ 140737488355328 := by
    have := sized_part hsz (i := 0) (j := 3) rfl rfl Try.underlying45 rfl rfl
    have h2 := of_decide_eq_true (List.all_eq_true.1 this a3.data.toList.length (by rw [g3]; simp [DataW.weights]))
    simp only [reachBytes] at h2
    omega
  clear hA0 hval0
  have hwk := walk a0 a2 l a3.data.toList W hl hn hs hlen
  unfold Goal arg at hwk
  rw [S_of] at hwk
  refine hwk.mono fun e W' ⟨he, bel⟩ => ?_
  subst he
  exact ⟨_, rfl, _, _, _, [], _, [], hW', trodAll_mk1 (shut_bool Try.underlying4 _), (trodAll_cons_mk (Below.trod laidOut (by kernel_rfl) (of_decide_eq_true (by kernel_rfl)) k0 bel lt0) trodAll_mk0), rfl, bel.frame _, fun h => by cases h⟩

theorem proved : Rows.RunBackSaid :=
  OpenClaim.holds_of_wide 5 Try.f5 rfl rfl rfl rfl rfl rfl rfl ⟨rfl, rfl, rfl, rfl, rfl⟩ rfl rfl rfl rfl rfl (by kernel_rfl) Try.func5 (by kernel_rfl)
    (of_decide_eq_true (by kernel_rfl)) (by unfold Func.isWrapper; first | (rw [if_pos (by decide +kernel)]; kernel_rfl) | (rw [if_neg (by decide +kernel)]; exact ⟨rfl, rfl⟩))
    (fun os started H enc _ => lifted os started H enc)
end Go.Proofs.Ytiflkgpdomippaa.runBack

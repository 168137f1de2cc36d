/-
  Package expr: marks and numbers; a builder of texts.
-/
import Derived.Test.YtpbfdaijnndilaaGreatDoorX10Nxt
import Derived.Shelf.Strings.BuilderK
import Derived.Test.YtpbfdaijnndilaaGreatDoorGWire
import Derived.Test.YtpbfdaijnndilaaGreatDoorROrd
namespace Go.Proofs.YtpbfdaijnndilaaGreatDoor.x10
open Go.RowKit Go.Shelf Go.Sort
open Go.Lib hiding intOf

theorem bel_of {u v w : World} {B : Nat} (h : Below u.heap.size u v) (k : Below B v w) (hB : v.heap.size ≤ B) : Below u.heap.size u w := h.trans (k.mono (by have := h.size; omega))
theorem find_none {α : Type} {p : α → Bool} {l : List α} {i : Nat} (h : l.length ≤ i) (hp : ∀ j (hj : j < l.length), j < i → p l[j] = false) : l.find? p = none := by
  rw [List.find?_eq_none]
  intro x hx
  obtain ⟨j, hj, rfl⟩ := List.getElem_of_mem hx
  rw [hp j hj (by omega)]
  decide
theorem find_some {α : Type} {p : α → Bool} : ∀ {l : List α} {i : Nat} (h : i < l.length), (∀ j (hj : j < l.length), j < i → p l[j] = false) → p l[i] = true → l.find? p = some l[i]
  | x :: t, 0, _, _, h1 => by rw [List.find?_cons_of_pos (by simpa using h1)]; rfl
  | x :: t, i + 1, h, h0, h1 => by
    have hx : p x = false := h0 0 (by simp) (by omega)
    rw [List.find?_cons_of_neg (by simp [hx])]
    exact find_some (l := t) (by simpa using h) (fun j hj hji => h0 (j + 1) (by simp; omega) (by omega)) (by simpa using h1)
/-- what a mark comes to -/
def mrkR (r : List UInt8) (st : Rs) : Ot Rs := match mkOf r with
  | some m => .ok { st with now := { st.now with kind := 4, s := m }, beh := st.beh + m.length }
  | none => .no 10 st.now.at'
theorem idx_agg (cs : Array Value) (i : Nat) (v : Value) (W : World) (hi : i < 13) (hc : cs[i]? = some v) : (Instr.index 148 (.agg cs) (.int .i64 (i : Int))).run Tryz.prog W = .ok v W := by
  have hn : 0 ≤ (i : Int) ∧ (i : Int) < 13 := by omega
  simp [Instr.index, run_underlying Tryz.underlying148, asIntOf, hn, go_sem]
  rw [if_pos hi, hc]
  rfl
theorem mks_len : mks.length = 13 := rfl
theorem mks_le : ∀ m ∈ mks, m.length ≤ 2 := by decide
theorem mksV_at (i : Nat) (h : i < mks.length) : mksV[i]? = some (.string (S mks[i])) := by simp [mksV, h]

set_option maxHeartbeats 1500000 in
set_option maxRecDepth 100000 in
theorem mark_any {w : World} {B b : Nat} {s : List UInt8} {st : Rs} {pv : Value} (h : Rm w B b s st pv) (hg : Gx B w) (r : List UInt8) (hb : st.beh ≤ 512) : Calls Tryz.prog 98 #[.pointer (some ⟨b, 0, none⟩), .string (S r)] w (Rp w B b s pv (mrkR r st)) := by
  obtain ⟨tt, fr, hgm⟩ := var_heap (g := 1) (by kernel_rfl) (hg w (Below.refl _ _)).2.1
  have HGM : Hid (w.heap[1]? = some (.cells mksV tt fr)) := hgm
  have hlt := h.ob.lt
  have c7 := h.ob.c 7
  have c1 := h.ob.c 1
  have c3 := h.ob.c 3
  have f1 := h.ob.f 1
  have f3 := h.ob.f 3
  have f7 := h.ob.f 7
  simp only [rcs, List.getElem?_toArray, List.getElem?_cons_zero, List.getElem?_cons_succ] at c7 c1 c3
  have CF := refuse_any h
  have HH : Hid (Rm w B b s st pv) := h
  clear h hg hgm
  go_enter Tryz.func98, Tryz.ntmps98
  go_wp2_with (refine wpList_load_row rfl 148 _ rfl 1 rfl tt _ fr _ HGM.out Tryz.underlying148 rfl (by kernel_rfl) ?_)
  go_loopw [7] (fun v7 wr => ∃ i : Nat, v7 = .int .i64 (i : Int) ∧ i ≤ 13 ∧ wr = w ∧ Hid (∀ j (hj : j < mks.length), j < i → mks[j].isPrefixOf r = false)) (fun v7 _ => 13 - (intOf v7).toNat)
  case atStart => exact ⟨0, rfl, Nat.zero_le _, rfl, fun j _ hj => by omega⟩
  case round =>
    obtain ⟨i, rfl, hi, rfl, HI⟩ := hrel
    by_cases hi13 : i < 13
    · have hi' : (i : Int) < 13 := by omega
      have hi0 : (0 : Int) ≤ (i : Int) := by omega
      have him : i < mks.length := hi13
      have hcell := mksV_at i him
      have hml := mks_le mks[i] (List.getElem_mem him)
      have CP := hp_any r mks[i]
      have HFS := find_some (p := fun m => m.isPrefixOf r) him HI.out
      obtain ⟨m, hm⟩ : ∃ m, mks[i] = m := ⟨_, rfl⟩
      have HIN : Hid (mks[i].isPrefixOf r = false → ∀ j (hj : j < mks.length), j < i + 1 → mks[j].isPrefixOf r = false) := fun hq j hj hji => by
        rcases Nat.lt_succ_iff_lt_or_eq.1 hji with h1 | rfl
        · exact HI.out j hj h1
        · exact hq
      skip
      rw [hm] at hcell hml CP HFS HIN
      have hsz : mksV.size = 13 := rfl
      have hix := fun (W : World) => idx_agg mksV i (.string (S m)) W (by omega) hcell
      have hz := S_size m
      have hw : IntKind.i64.wrap ((st.beh : Int) + (m.length : Int)) = (st.beh : Int) + (m.length : Int) := by rw [IntKind.wrap_i64]; omega
      clear hm
      cases q : m.isPrefixOf r with
      | true =>
        rw [q] at CP
        have HR : Hid (mrkR r st = .ok { st with now := { st.now with kind := 4, s := m }, beh := st.beh + m.length }) := by
          show _ = _
          unfold mrkR mkOf
          rw [HFS q]
        clear HFS HIN
        go_wp2_with (go_at_call 121; refine (CP _).mono ?_; rintro e w1 ⟨rfl, hw1⟩; rw [hw1]; clear hw1)
        first | go_end0 | refine bodyPost_ret (results_none rfl _ _ _) rfl ?_
        rw [HR.out]
        refine ⟨rfl, pv, HH.out.sets (chAt (chAt (chAt (chRe _ b) 1 _) 3 _) 7 _) ?_ rfl⟩
        have := ((HH.out.ob.set 1 (.int .i64 4)).set 3 (.string (S m))).set 7 (.int .i64 ((st.beh : Int) + (m.length : Int)))
        simpa [rcs] using this
      | false =>
        rw [q] at CP
        have HN : Hid _ := HIN.out q
        clear HFS HIN q
        go_wp2_with (go_at_call 121; refine (CP _).mono ?_; rintro e w1 ⟨rfl, hw1⟩; rw [hw1]; clear hw1)
        go_roundw
        case rel => exact ⟨i + 1, by simp, by omega, by first | rfl | trivial, HN⟩
        case measure => simp [intOf]; omega
    · have hi' : ¬ (i : Int) < 13 := by omega
      have HR : Hid (mrkR r st = .no 10 st.now.at') := by
        show _ = _
        unfold mrkR mkOf
        rw [find_none (i := i) (by rw [mks_len]; omega) HI.out]
      go_wp2_with (go_at_call 49; refine CF.mono ?_; rintro e w1 ⟨rfl, hw1⟩; rw [hw1]; clear hw1)
      rw [HR.out]
      exact ⟨rfl, rfl, Ch.refl _ _⟩

/-- what a row of digits comes to -/
def numR (r : List UInt8) (st : Rs) : Ot Rs := if numD r ≤ 9223372036854775807 ∧ ¬ (r.head? = some 48 ∧ r ≠ [48]) then .ok { st with now := { st.now with kind := 1, v := (1, (numD r : Int), []) }, beh := st.beh + r.length } else .no 10 st.now.at'
theorem fold_le : ∀ (l : List UInt8) (a : Nat), a ≤ l.foldl (fun a c => a * 10 + (c.toNat - 48)) a
  | [], a => Nat.le_refl _
  | c :: r, a => by
    rw [List.foldl_cons]
    exact Nat.le_trans (by omega) (fold_le r _)
theorem parse_fold : ∀ (l : List UInt8) (a : Nat), (∀ c ∈ l, 48 ≤ c.toNat ∧ c.toNat ≤ 57) → (l.foldl (fun a c => a * 10 + (c.toNat - 48)) a ≤ 18446744073709551615 → Lib.parseUintM 18446744073709551615 a l = .ok (l.foldl (fun a c => a * 10 + (c.toNat - 48)) a)) ∧ (¬ l.foldl (fun a c => a * 10 + (c.toNat - 48)) a ≤ 18446744073709551615 → a ≤ 18446744073709551615 → Lib.parseUintM 18446744073709551615 a l = .range)
  | [], a, _ => ⟨fun _ => by rw [Lib.parseUintM]; rfl, fun h h2 => absurd h2 h⟩
  | c :: r, a, hd => by
    have h1 := fold_le r (a * 10 + (c.toNat - 48))
    have ih := parse_fold r (a * 10 + (c.toNat - 48)) (fun x hx => hd x (by simp [hx]))
    rw [List.foldl_cons]
    refine ⟨fun hn => ?_, fun hn ha => ?_⟩
    · rw [Lib.parseUintM, if_pos (hd c (by simp)), if_neg (by omega), if_neg (by omega)]
      exact ih.1 hn
    · rw [Lib.parseUintM, if_pos (hd c (by simp))]
      by_cases h2 : 1844674407370955162 ≤ a
      · rw [if_pos h2]
      · rw [if_neg h2]
        by_cases h3 : 18446744073709551615 < a * 10 + (c.toNat - 48)
        · rw [if_pos h3]
        · rw [if_neg h3]
          exact ih.2 hn (by omega)
theorem parse_num {r : List UInt8} (hr : r ≠ []) (hd : ∀ c ∈ r, 48 ≤ c.toNat ∧ c.toNat ≤ 57) : (numD r ≤ 9223372036854775807 → Lib.parseIntB 64 r = .ok (numD r : Int)) ∧ (¬ numD r ≤ 9223372036854775807 → Lib.parseIntB 64 r = .range) := by
  cases r with
  | nil => exact absurd rfl hr
  | cons c t =>
    have hc := hd c (by simp)
    rw [Lib.parseIntB_plain 64 c t (by omega) (by omega)]
    have hf := parse_fold (c :: t) 0 hd
    have e : Lib.parseUintB 64 (c :: t) = Lib.parseUintM 18446744073709551615 0 (c :: t) := by unfold Lib.parseUintB; rw [if_neg (by simp)]
    rw [e]
    unfold numD
    refine ⟨fun h => ?_, fun h => ?_⟩
    · rw [hf.1 (by omega)]
      show (if 9223372036854775808 ≤ _ then _ else _) = _
      rw [if_neg (by omega)]
    · by_cases h2 : (c :: t).foldl (fun a c => a * 10 + (c.toNat - 48)) 0 ≤ 18446744073709551615
      · rw [hf.1 h2]
        show (if 9223372036854775808 ≤ _ then _ else _) = _
        rw [if_pos (by omega)]
      · rw [hf.2 h2 (by omega)]
        rfl
theorem pin_ok (r : List UInt8) (hr : r ≠ []) (hl : r.length ≤ 512) (hd : ∀ c ∈ r, 48 ≤ c.toNat ∧ c.toNat ≤ 57) (h : numD r ≤ 9223372036854775807) (w : World) : Calls Tryz.prog 116 #[.string (S r), .int .i64 10, .int .i64 64] w fun e w' => e = .returned (.tuple #[.int .i64 (numD r : Int), .nilIface]) ∧ Below w.heap.size w w' := by
  have := Any.strconv_ParseInt_10_at64_ok pinLay (S r) (by rw [S_size]; omega) (numD r : Int) (by rw [S_data]; exact (parse_num hr hd).1 h) w
  refine this.mono fun e w' ⟨h1, h2⟩ => ⟨h1, ?_⟩
  rcases h2 with rfl | ⟨t, rfl⟩
  · exact Below.refl _ _
  · exact Lib.bytesWorld_below _ _ _
theorem pin_no (r : List UInt8) (hr : r ≠ []) (hl : r.length ≤ 512) (hd : ∀ c ∈ r, 48 ≤ c.toNat ∧ c.toNat ≤ 57) (h : ¬ numD r ≤ 9223372036854775807) {B : Nat} {w : World} (hg : Gx B w) : Calls Tryz.prog 116 #[.string (S r), .int .i64 10, .int .i64 64] w fun e w' => (∃ v t p, e = .returned (.tuple #[.int .i64 v, .iface t p])) ∧ Below w.heap.size w w' := by
  obtain ⟨tp, p, hvar⟩ := (hg w (Below.refl _ _)).2.2.1
  have := Any.strconv_ParseInt_10_at64_range_var pinLay (S r) (by rw [S_size]; omega) (by rw [S_data]; exact (parse_num hr hd).2 h) tp p w hvar
  exact this.mono fun e w' ⟨N, h1, _, _, h4⟩ => ⟨⟨_, _, _, h1⟩, h4⟩

set_option maxHeartbeats 400000 in
theorem number_v (n : Int) (w : World) : Calls Tryz.prog 70 #[.int .i64 n] w fun e w' => e = .returned (.agg #[.int .i64 1, .int .i64 n, .string ⟨#[]⟩]) ∧ Below w.heap.size w w' := by
  go_enter Tryz.func70, Tryz.ntmps70
  go_wp2
  exact bodyPost_ret (v := .agg #[.int .i64 1, .int .i64 n, .string ⟨#[]⟩]) (by simp [results, Tryz.results70, go_sem]) rfl ⟨rfl, (Below.refl _ w).alloc (Nat.le_refl _) _⟩
set_option maxHeartbeats 400000 in
theorem text_v (l : List UInt8) (w : World) : Calls Tryz.prog 112 #[.string (S l)] w fun e w' => e = .returned (.agg #[.int .i64 3, .int .i64 0, .string (S l)]) ∧ Below w.heap.size w w' := by
  go_enter Tryz.func112, Tryz.ntmps112
  go_wp2
  exact bodyPost_ret (v := .agg #[.int .i64 3, .int .i64 0, .string (S l)]) (by simp [results, Tryz.results112, go_sem]) rfl ⟨rfl, (Below.refl _ w).alloc (Nat.le_refl _) _⟩
set_option maxHeartbeats 400000 in
theorem truth_v (x : Bool) (w : World) : Calls Tryz.prog 72 #[.bool x] w fun e w' => e = .returned (.agg #[.int .i64 2, .int .i64 (if x then 1 else 0), .string ⟨#[]⟩]) ∧ Below w.heap.size w w' := by
  cases x
  · go_enter Tryz.func72, Tryz.ntmps72
    go_wp2
    exact bodyPost_ret (v := .agg #[.int .i64 2, .int .i64 0, .string ⟨#[]⟩]) (by simp [results, Tryz.results72, go_sem]) rfl ⟨rfl, (Below.refl _ w).alloc (Nat.le_refl _) _⟩
  · go_enter Tryz.func72, Tryz.ntmps72
    go_wp2
    exact bodyPost_ret (v := .agg #[.int .i64 2, .int .i64 1, .string ⟨#[]⟩]) (by simp [results, Tryz.results72, go_sem]) rfl ⟨rfl, (Below.refl _ w).alloc (Nat.le_refl _) _⟩
theorem Lf.of_below {w w' : World} (b : Nat) (pv : Value) (h : Below w.heap.size w w') : Lf w b pv w' pv := ⟨Ch.of_below h, fun _ hx => .inl hx⟩

set_option maxHeartbeats 2000000 in
set_option maxRecDepth 100000 in
theorem number_any {w : World} {B b : Nat} {s : List UInt8} {st : Rs} {pv : Value} (h : Rm w B b s st pv) (hg : Gx B w) (r : List UInt8) (hr : r ≠ []) (hl : r.length ≤ 512) (hd : ∀ c ∈ r, 48 ≤ c.toNat ∧ c.toNat ≤ 57) (hb : st.beh ≤ 512) : Calls Tryz.prog 93 #[.pointer (some ⟨b, 0, none⟩), .string (S r)] w (Rp w B b s pv (numR r st)) := by
  have hz := S_size r
  have hw : IntKind.i64.wrap ((st.beh : Int) + (r.length : Int)) = (st.beh : Int) + (r.length : Int) := by rw [IntKind.wrap_i64]; omega
  have HF : Hid (∀ W, Below w.heap.size w W → W.cell? ⟨b, 1, none⟩ = some (.int .i64 st.now.kind) ∧ W.cell? ⟨b, 4, none⟩ = some (.int .i64 st.now.v.1) ∧ W.cell? ⟨b, 5, none⟩ = some (.int .i64 st.now.v.2.1) ∧ W.cell? ⟨b, 6, none⟩ = some (.string (S st.now.v.2.2)) ∧ W.cell? ⟨b, 7, none⟩ = some (.int .i64 (st.beh : Int)) ∧ (∀ i, W.frozen? ⟨b, i, none⟩ = false) ∧ b < W.heap.size) := fun W hW => by
    have o := (h.below hW).ob
    exact ⟨o.c 1, o.c 4, o.c 5, o.c 6, o.c 7, o.f, o.lt⟩
  have HRF : Hid (∀ W, Below w.heap.size w W → _) := fun W hW => refuse_any (h.below hW)
  have HH : Hid (Rm w B b s st pv) := h
  have hbl := h.ob.lt
  by_cases hn : numD r ≤ 9223372036854775807
  · have CP := pin_ok r hr hl hd hn w
    have CV := number_v (numD r : Int)
    have hbeh : (0 : Int) ≤ (st.beh : Int) := by omega
    by_cases h0 : r.head? = some 48 ∧ r ≠ [48]
    · have HR : Hid (numR r st = .no 10 st.now.at') := by show _ = _; unfold numR; rw [if_neg (fun h => h.2 h0)]
      obtain ⟨t, ht⟩ : ∃ t, r = 48 :: t := by
        cases r with
        | nil => exact absurd rfl hr
        | cons c t => have := h0.1; simp at this; exact ⟨t, by rw [this]⟩
      have hg0 : ∀ (h : 0 < (S r).size), (S r)[0]'h = 48 := fun h => by rw [S_at r 0 (by rw [← hz]; exact h) h]; simp [ht]
      have hg1 : 0 < (S r).size := by rw [hz, ht]; simp
      have hg2 : (0 : Int) < ((S r).size : Int) := by omega
      have hne : ((S r).toList == [48]) = false := beq_lit (by rw [S_data]; exact h0.2)
      have hrl : 0 < r.length := by rw [ht]; simp
      clear h hg hr hd hn h0 ht
      generalize numD r = nd at *
      go_enter Tryz.func93, Tryz.ntmps93
      go_wp2_with (first
        | (go_at_call 116; refine CP.mono ?_; rintro e w1 ⟨rfl, b1⟩; have B1 : Hid (Below w.heap.size w w1) := b1; have CF := HRF.out w1 b1; clear b1 CP)
        | (go_at_call 49; refine CF.mono ?_; rintro e w2 ⟨rfl, hw2⟩; rw [hw2]; clear hw2))
      rw [HR.out]
      exact ⟨rfl, rfl, Ch.of_below B1.out⟩
    · have HR : Hid (numR r st = .ok { st with now := { st.now with kind := 1, v := (1, (numD r : Int), []) }, beh := st.beh + r.length }) := by show _ = _; unfold numR; rw [if_pos ⟨hn, h0⟩]
      have hcs : (∃ c t, r = c :: t ∧ c ≠ 48) ∨ r = [48] := by
        cases r with
        | nil => exact absurd rfl hr
        | cons c t =>
          by_cases hc : c = 48
          · right
            subst hc
            by_cases ht : (48 :: t : List UInt8) = [48]
            · exact ht
            · exact absurd ⟨rfl, ht⟩ h0
          · exact .inl ⟨c, t, rfl, hc⟩
      have HFI : Hid (∀ W, Below w.heap.size w W → Rp w B b s pv (numR r st) (.returned (.tuple #[])) (((((W.setCell ⟨b, 1, none⟩ (.int .i64 1)).setCell ⟨b, 4, none⟩ (.int .i64 1)).setCell ⟨b, 5, none⟩ (.int .i64 (numD r : Int))).setCell ⟨b, 6, none⟩ (.string ⟨#[]⟩)).setCell ⟨b, 7, none⟩ (.int .i64 ((st.beh : Int) + (r.length : Int))))) := fun W hW => by
        rw [HR.out]
        have hk := h.below hW
        obtain ⟨k1, k2⟩ := hk.sets (st' := { st with now := { st.now with kind := 1, v := (1, (numD r : Int), []) }, beh := st.beh + r.length }) (chAt (chAt (chAt (chAt (chAt (chRe W b) 1 (.int .i64 1)) 4 (.int .i64 1)) 5 (.int .i64 (numD r : Int))) 6 (.string ⟨#[]⟩)) 7 (.int .i64 ((st.beh : Int) + (r.length : Int)))) (by
          have := ((((hk.ob.set 1 (.int .i64 1)).set 4 (.int .i64 1)).set 5 (.int .i64 (numD r : Int))).set 6 (.string ⟨#[]⟩)).set 7 (.int .i64 ((st.beh : Int) + (r.length : Int)))
          simpa [rcs, S] using this) rfl
        exact ⟨rfl, pv, k1, (Lf.of_below b pv hW).trans k2⟩
      rcases hcs with ⟨c, t, ht, hc⟩ | ht
      · have hg0 : ∀ (h : 0 < (S r).size), (S r)[0]'h = c := fun h => by rw [S_at r 0 (by rw [← hz]; exact h) h]; simp [ht]
        have hg1 : 0 < (S r).size := by rw [hz, ht]; simp
        have hg2 : (0 : Int) < ((S r).size : Int) := by omega
        have hrl : 0 < r.length := by rw [ht]; simp
        have hcn : ((c.toNat : Int) == 48) = false := by
          rw [beq_eq_false_iff_ne]
          intro e
          exact hc (UInt8.toNat_inj.1 (by have : c.toNat = 48 := by omega
                                          simpa using this))
        clear h hg hr hd hn h0 ht HR hc
        generalize numD r = nd at *
        go_enter Tryz.func93, Tryz.ntmps93
        go_wp2_with (first
          | (go_at_call 116; refine CP.mono ?_; rintro e w1 ⟨rfl, b1⟩; have B1 : Hid (Below w.heap.size w w1) := b1; clear b1 CP)
          | (go_at_call 70; refine (CV _).mono ?_; rintro e w2 ⟨rfl, b2⟩; have B2 : Hid (Below w.heap.size w w2) := bel_of B1.out b2 (Nat.le_refl _); obtain ⟨d1, d4, d5, d6, d7, df, dl⟩ := HF.out w2 B2.out; have e1 := df 1; have e4 := df 4; have e5 := df 5; have e6 := df 6; have e7 := df 7; clear b2 df))
        go_end0
        exact HFI.out _ B2.out
      · subst ht
        have hg0 : ∀ (h : 0 < (S [48]).size), (S [48])[0]'h = 48 := fun h => S_at [48] 0 (by simp) h
        have hg1 : 0 < (S [48]).size := by rw [hz]; simp
        have hg2 : (0 : Int) < ((S [48]).size : Int) := by omega
        have hne : ((S [48]).toList == [48]) = true := by rw [S_toList]; rfl
        clear h hg hr hd hn h0 HR
        generalize numD [48] = nd at *
        go_enter Tryz.func93, Tryz.ntmps93
        go_wp2_with (first
          | (go_at_call 116; refine CP.mono ?_; rintro e w1 ⟨rfl, b1⟩; have B1 : Hid (Below w.heap.size w w1) := b1; clear b1 CP)
          | (go_at_call 70; refine (CV _).mono ?_; rintro e w2 ⟨rfl, b2⟩; have B2 : Hid (Below w.heap.size w w2) := bel_of B1.out b2 (Nat.le_refl _); obtain ⟨d1, d4, d5, d6, d7, df, dl⟩ := HF.out w2 B2.out; have e1 := df 1; have e4 := df 4; have e5 := df 5; have e6 := df 6; have e7 := df 7; clear b2 df))
        go_end0
        exact HFI.out _ B2.out
  · have CP := pin_no r hr hl hd hn hg
    have HR : Hid (numR r st = .no 10 st.now.at') := by show _ = _; unfold numR; rw [if_neg (fun h => hn h.1)]
    clear h hg hr hd hn
    go_enter Tryz.func93, Tryz.ntmps93
    go_wp2_with (first
      | (go_at_call 116; refine CP.mono ?_; rintro e w1 ⟨⟨v, tq, pq, rfl⟩, b1⟩; have B1 : Hid (Below w.heap.size w w1) := b1; have CF := HRF.out w1 b1; clear b1 CP)
      | (go_at_call 49; refine CF.mono ?_; rintro e w2 ⟨rfl, hw2⟩; rw [hw2]; clear hw2))
    rw [HR.out]
    exact ⟨rfl, rfl, Ch.of_below B1.out⟩
end Go.Proofs.YtpbfdaijnndilaaGreatDoor.x10
namespace Go.Proofs.YtpbfdaijnndilaaGreatDoor
open Go.RowKit Go.Shelf Go.Sort
open Go.Lib hiding intOf

/-- where the library's numbers lie in this program -/
def bldRen : Shelf.Ren := ⟨fun
  | 166 => 131
  | 167 => 119
  | 169 => 120
  | 240 => 140
  | 276 => 156
  | n => n, fun
  | 0 => 0
  | 3 => 3
  | 4 => 4
  | 5 => 5
  | 9 => 9
  | 20 => 20
  | 37 => 141
  | 70 => 140
  | 72 => 143
  | 75 => 137
  | 80 => 147
  | 164 => 175
  | 127 => 160
  | n => n, fun n => n⟩
theorem bld166 : Lays.n166 Tryz.prog bldRen where
  mixed := by kernel_rfl
  f166 := Tryz.func131.trans (by kernel_rfl)
  f240 := Tryz.func140.trans (by kernel_rfl)
  f276 := Tryz.func156.trans (by kernel_rfl)
  t0 := Tryz.underlying0
  a0 := Tryz.isAgg0
  z0 := Tryz.sizeOf0
  v0 := Tryz.zeroValue0
  t3 := Tryz.underlying3
  a3 := Tryz.isAgg3
  z3 := Tryz.sizeOf3
  v3 := Tryz.zeroValue3
  t4 := Tryz.underlying4
  a4 := Tryz.isAgg4
  z4 := Tryz.sizeOf4
  v4 := Tryz.zeroValue4
  t9 := Tryz.underlying9
  a9 := Tryz.isAgg9
  z9 := Tryz.sizeOf9
  v9 := Tryz.zeroValue9
  t20 := Tryz.underlying20
  a20 := Tryz.isAgg20
  z20 := Tryz.sizeOf20
  v20 := Tryz.zeroValue20
  t37 := Tryz.underlying141
  a37 := Tryz.isAgg141
  z37 := Tryz.sizeOf141
  v37 := Tryz.zeroValue141
  t70 := Tryz.underlying140
  a70 := Tryz.isAgg140
  z70 := Tryz.sizeOf140
  v70 := Tryz.zeroValue140
  t72 := Tryz.underlying143
  a72 := Tryz.isAgg143
  z72 := Tryz.sizeOf143
  v72 := Tryz.zeroValue143
  t75 := Tryz.underlying137
  a75 := Tryz.isAgg137
  z75 := Tryz.sizeOf137
  v75 := Tryz.zeroValue137
  t164 := Tryz.underlying175
  a164 := Tryz.isAgg175
  z164 := Tryz.sizeOf175
  v164 := Tryz.zeroValue175
theorem bld167 : Lays.n167 Tryz.prog bldRen where
  mixed := by kernel_rfl
  f167 := Tryz.func119.trans (by kernel_rfl)
  f240 := Tryz.func140.trans (by kernel_rfl)
  f276 := Tryz.func156.trans (by kernel_rfl)
  t0 := Tryz.underlying0
  a0 := Tryz.isAgg0
  z0 := Tryz.sizeOf0
  v0 := Tryz.zeroValue0
  t4 := Tryz.underlying4
  a4 := Tryz.isAgg4
  z4 := Tryz.sizeOf4
  v4 := Tryz.zeroValue4
  t5 := Tryz.underlying5
  a5 := Tryz.isAgg5
  z5 := Tryz.sizeOf5
  v5 := Tryz.zeroValue5
  t9 := Tryz.underlying9
  a9 := Tryz.isAgg9
  z9 := Tryz.sizeOf9
  v9 := Tryz.zeroValue9
  t20 := Tryz.underlying20
  a20 := Tryz.isAgg20
  z20 := Tryz.sizeOf20
  v20 := Tryz.zeroValue20
  t37 := Tryz.underlying141
  a37 := Tryz.isAgg141
  z37 := Tryz.sizeOf141
  v37 := Tryz.zeroValue141
  t70 := Tryz.underlying140
  a70 := Tryz.isAgg140
  z70 := Tryz.sizeOf140
  v70 := Tryz.zeroValue140
  t72 := Tryz.underlying143
  a72 := Tryz.isAgg143
  z72 := Tryz.sizeOf143
  v72 := Tryz.zeroValue143
  t75 := Tryz.underlying137
  a75 := Tryz.isAgg137
  z75 := Tryz.sizeOf137
  v75 := Tryz.zeroValue137
  t164 := Tryz.underlying175
  a164 := Tryz.isAgg175
  z164 := Tryz.sizeOf175
  v164 := Tryz.zeroValue175
theorem bld169 : Lays.n169 Tryz.prog bldRen where
  mixed := by kernel_rfl
  f169 := Tryz.func120.trans (by kernel_rfl)
  t0 := Tryz.underlying0
  a0 := Tryz.isAgg0
  z0 := Tryz.sizeOf0
  v0 := Tryz.zeroValue0
  t3 := Tryz.underlying3
  a3 := Tryz.isAgg3
  z3 := Tryz.sizeOf3
  v3 := Tryz.zeroValue3
  t9 := Tryz.underlying9
  a9 := Tryz.isAgg9
  z9 := Tryz.sizeOf9
  v9 := Tryz.zeroValue9
  t37 := Tryz.underlying141
  a37 := Tryz.isAgg141
  z37 := Tryz.sizeOf141
  v37 := Tryz.zeroValue141
  t70 := Tryz.underlying140
  a70 := Tryz.isAgg140
  z70 := Tryz.sizeOf140
  v70 := Tryz.zeroValue140
  t72 := Tryz.underlying143
  a72 := Tryz.isAgg143
  z72 := Tryz.sizeOf143
  v72 := Tryz.zeroValue143
  t127 := Tryz.underlying160
  a127 := Tryz.isAgg160
  z127 := Tryz.sizeOf160
  v127 := Tryz.zeroValue160
theorem bldX : Builder.Extra Tryz.prog bldRen := {
  sizeBuilder := by kernel_rfl
  liesBuilder := by kernel_rfl
  t5 := Tryz.underlying5
  a5 := Tryz.isAgg5
  z5 := Tryz.sizeOf5
  v5 := Tryz.zeroValue5
  infoByte := by kernel_rfl
  cellsByte := by kernel_rfl
  sizeByte := by kernel_rfl
  neB5 := by decide }

/-- the Builder in block b holds l; it and its bytes lie from block B on -/
def Bd9 (w : World) (B b : Nat) (l : List UInt8) : Prop := Lib.IsBuilderF 143 5 B b (Lib.byteCells l) w ∧ B ≤ w.heap.size
theorem Bd9.new (w : World) : Bd9 (w.alloc (.cells #[.pointer none, .slice none 0 0] 143)) w.heap.size w.heap.size [] := ⟨Lib.IsBuilderF.of (Lib.fresh_isBuilder 143 5 w), by simp⟩
theorem Bd9.alloc {w : World} {B b : Nat} {l : List UInt8} (h : Bd9 w B b l) (o : Obj) : Bd9 (w.alloc o) B b l := ⟨h.1.alloc o, by have := h.2; simp; omega⟩
/-- what a writer keeps: all below B, and every block that holds no bytes -/
structure Kp (w w' : World) (B b : Nat) : Prop where
  bel : Below B w w'
  oth : Lib.OthersKept 5 (some b) w w'
theorem BuilderAtF.up9 {T e : TypeId} {B b : Nat} {p : Value} {bs : List Value} {w w' : World} (h : Lib.BuilderAtF T e B b p bs w) (hk : ∀ k, k < w.heap.size → w'.heap[k]? = w.heap[k]?) : Lib.BuilderAtF T e B b p bs w' := by
  obtain ⟨hB, v, hb, hown, hne⟩ := h
  refine ⟨hB, v, (hk b (Array.getElem?_eq_some_iff.1 hb).1).trans hb, ⟨hown.1, ?_⟩, hne⟩
  rcases hown.2 with hn | ⟨g, cap, cur, fz, hv, hbg, hg, rest⟩
  · exact .inl hn
  · exact .inr ⟨g, cap, cur, fz, hv, hbg, (hk g (Array.getElem?_eq_some_iff.1 hg).1).trans hg, rest⟩
theorem Bd9.up {w w' : World} {B b : Nat} {l : List UInt8} (h : Bd9 w B b l) (hb : Below w.heap.size w w') : Bd9 w' B b l :=
  ⟨h.1.elim (fun x => .inl (BuilderAtF.up9 x hb.block)) (fun x => .inr (BuilderAtF.up9 x hb.block)), Nat.le_trans h.2 hb.size⟩
theorem Kp.refl (w : World) (B b : Nat) : Kp w w B b := ⟨Below.refl _ _, Lib.OthersKept.refl _ _ _⟩
theorem Kp.trans {u v w : World} {B b : Nat} (h : Kp u v B b) (k : Kp v w B b) : Kp u w B b := ⟨h.bel.trans k.bel, h.oth.trans k.oth⟩
theorem Kp.up {u v w : World} {B b : Nat} (h : Kp u v B b) (k : Below v.heap.size v w) (hB : B ≤ v.heap.size) : Kp u w B b :=
  ⟨h.bel.trans (k.mono hB), fun i o hi hb ho => (k.block i (Array.getElem?_eq_some_iff.1 (h.oth i o hi hb ho)).1).trans (h.oth i o hi hb ho)⟩
theorem wByte {w : World} {B b : Nat} {l : List UInt8} (h : Bd9 w B b l) (c : UInt8) (hl : l.length + 1 ≤ 140737488355328) :
    Calls Tryz.prog 119 #[.pointer (some ⟨b, 0, none⟩), .int .u8 (c.toNat : Int)] w fun e w' => e = .returned .nilIface ∧ Bd9 w' B b (l ++ [c]) ∧ Kp w w' B b := by
  refine (Any.Builder_WriteByte_k bld167 bldX B b (Lib.byteCells l) (c.toNat : Int) w h.1 (by rw [Lib.byteCells_length]; exact hl) h.2).mono ?_
  rintro e w' ⟨he, h1, h2, h3⟩
  refine ⟨he, ⟨?_, Nat.le_trans h.2 h2.size⟩, h2, h3⟩
  rw [Lib.byteCells_append]
  exact .inr h1
theorem wStr {w : World} {B b : Nat} {l : List UInt8} (h : Bd9 w B b l) (s : List UInt8) (hl : l.length + s.length ≤ 140737488355328) :
    Calls Tryz.prog 131 #[.pointer (some ⟨b, 0, none⟩), .string (S s)] w fun e w' => e = .returned (.tuple #[.int .i64 (s.length : Int), .nilIface]) ∧ Bd9 w' B b (l ++ s) ∧ Kp w w' B b := by
  refine (Any.Builder_WriteString_k bld166 bldX B b (Lib.byteCells l) (S s) w h.1 (by rw [Lib.byteCells_length, S_size]; exact hl) h.2).mono ?_
  rintro e w' ⟨he, h1, h2, h3⟩
  refine ⟨by rw [he, S_size], ⟨?_, Nat.le_trans h.2 h2.size⟩, h2, h3⟩
  rw [Lib.byteCells_append]
  rw [Lib.strCells_eq, S_list] at h1
  exact .inr h1
theorem bStr {w : World} {B b : Nat} {l : List UInt8} (h : Bd9 w B b l) :
    Calls Tryz.prog 120 #[.pointer (some ⟨b, 0, none⟩)] w fun e w' => e = .returned (.string (S l)) ∧ Kp w w' B b := by
  refine (Any.Builder_String_any_k bld169 bldX B b l w h.1 h.2).mono ?_
  rintro e w' ⟨he, -, h2, h3⟩
  exact ⟨he, h2, h3⟩
end Go.Proofs.YtpbfdaijnndilaaGreatDoor

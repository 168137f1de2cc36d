/-
  Package book's Due.
-/
import Derived.Test.YthmfcloecmnfnaaGreatB16Gat
namespace Go.Proofs.YthmfcloecmnfnaaGreat.f13
open Go.RowKit Go.Shelf Go.Sort
open Go.Lib hiding intOf

def dTm (now : Int) (x : Tm) : List Rc := if x.at_ ≤ now then [(⟨1, 9, 0, now, x.token, 0, 0, x.node, 0, [], [], [], .slice none 0 0, []⟩ : Rc)] else []
def dJb (now : Int) (x : Jb) : List Rc := if x.wkr.isEmpty = false then (if x.unt ≤ now then [(⟨1, 10, 0, now, x.key, 0, 0, 0, 0, [], [], [], .slice none 0 0, []⟩ : Rc)] else []) else []
def dMs (now : Int) (x : Ms) : List Rc := if x.unt ≤ now then [(⟨1, 11, 0, now, x.key, 0, 0, 0, 0, [], [], [], .slice none 0 0, []⟩ : Rc)] else []
/-- what is due -/
def dueL (s : St) (now : Int) : List Rc := s.timers.flatMap (dTm now) ++ s.jobs.flatMap (dJb now) ++ s.msgs.flatMap (dMs now)
theorem dTm_len (now : Int) (x : Tm) : (dTm now x).length ≤ 1 := by unfold dTm; split <;> simp
theorem dJb_len (now : Int) (x : Jb) : (dJb now x).length ≤ 1 := by unfold dJb; split <;> (try split) <;> simp
theorem dMs_len (now : Int) (x : Ms) : (dMs now x).length ≤ 1 := by unfold dMs; split <;> simp
theorem fm_le1 {α β : Type} {f : α → List β} (hf : ∀ x, (f x).length ≤ 1) : ∀ l : List α, (l.flatMap f).length ≤ l.length
  | [] => Nat.le_refl _
  | x :: t => by
    rw [List.flatMap_cons, List.length_append, List.length_cons]
    have := hf x
    have := fm_le1 hf t
    omega
theorem fm_snoc {α β : Type} {f : α → List β} {l : List α} {i : Nat} (h : i < l.length) : (l.take (i + 1)).flatMap f = (l.take i).flatMap f ++ f l[i] := by
  rw [List.take_succ_eq_append_getElem h, List.flatMap_append]
  simp
theorem due_less {n i : Nat} (h : i < n) : n - (intOf (.int .i64 ((i : Int) + 1))).toNat < n - (intOf (.int .i64 (i : Int))).toNat := by
  show n - (i + 1) < n - i
  omega
theorem ite_app {c : Prop} [Decidable c] (L : List Rc) (x : Rc) : (if c then L ++ [x] else L) = L ++ (if c then [x] else []) := by
  by_cases h : c
  · rw [if_pos h, if_pos h]
  · rw [if_neg h, if_neg h, List.append_nil]
theorem due_fit {n a b c : Nat} (hn : n ≤ a + b + c) (ha : a ≤ 1048576) (hb : b ≤ 1048576) (hc : c ≤ 1048576) : ((n + 1) + (n + 1) / 4 + 192) * 144 ≤ 281474976710656 := by omega
set_option maxHeartbeats 8000000 in
set_option maxRecDepth 100000 in
theorem Due_any {w : World} {s : St} (hs : Sv w s) (now : Int) (ht : s.timers.length ≤ 1048576) (hj : s.jobs.length ≤ 1048576) (hm : s.msgs.length ≤ 1048576) :
    Calls Tryz.prog 7 #[.agg s.c.toArray, .int .i64 now] w fun e w' => ∃ v, e = .returned v ∧ w'.ownsRow w.heap.size 63 13 v (dueL s now).length ((dueL s now).flatMap Rc.cs) ∧ Below w.heap.size w w' := by
  have HS : Hid (Sv w s) := hs
  have HD : Hid (dueL s now = s.timers.flatMap (dTm now) ++ s.jobs.flatMap (dJb now) ++ s.msgs.flatMap (dMs now)) := rfl
  have HZ : Hid (s.timers.length ≤ 1048576 ∧ s.jobs.length ≤ 1048576 ∧ s.msgs.length ≤ 1048576) := ⟨ht, hj, hm⟩
  obtain ⟨DL, hDL⟩ : ∃ DL, dueL s now = DL := ⟨_, rfl⟩
  rw [hDL] at HD ⊢
  clear hDL ht hj hm
  have hsl := Sv.slices hs
  clear hs
  obtain ⟨⟨saDe, snDe, scDe, shDe⟩, ⟨saIn, snIn, scIn, shIn⟩, ⟨saTk, snTk, scTk, shTk⟩, ⟨saJb, snJb, scJb, shJb⟩, ⟨saTm, snTm, scTm, shTm⟩, ⟨saSb, snSb, scSb, shSb⟩, ⟨saKp, snKp, scKp, shKp⟩, ⟨saLs, snLs, scLs, shLs⟩, ⟨saMs, snMs, scMs, shMs⟩⟩ := hsl
  obtain ⟨spos, sdone, smade, svDe, slDe, svIn, slIn, svTk, slTk, svJb, slJb, svTm, slTm, svSb, slSb, svKp, slKp, svLs, slLs, svMs, slMs⟩ := s
  simp only at shDe shIn shTk shJb shTm shSb shKp shLs shMs
  subst shDe shIn shTk shJb shTm shSb shKp shLs shMs
  have eT : snTm = slTm.length := by
    obtain ⟨_, _, hv, -⟩ := id HS.out.rTm
    injection hv
  have eJ : snJb = slJb.length := by
    obtain ⟨_, _, hv, -⟩ := id HS.out.rJb
    injection hv
  have eM : snMs = slMs.length := by
    obtain ⟨_, _, hv, -⟩ := id HS.out.rMs
    injection hv
  subst eT eJ eM
  simp only [St.c]
  obtain ⟨nb, hnb⟩ : ∃ nb, w.heap.size = nb := ⟨_, rfl⟩
  obtain ⟨W3, hW3⟩ : ∃ W3, ((w.alloc (.cells #[.int .u64 (spos : Int), .int .u64 (sdone : Int), .int .u64 (smade : Int), .slice saDe snDe scDe, .slice saIn snIn scIn, .slice saTk snTk scTk, .slice saJb slJb.length scJb, .slice saTm slTm.length scTm, .slice saSb snSb scSb, .slice saKp snKp scKp, .slice saLs snLs scLs, .slice saMs slMs.length scMs] 33)).alloc (.cells #[.int .i64 now] 2)).alloc (.cells #[.slice none 0 0] 37) = W3 := ⟨_, rfl⟩
  have hb3 : Below w.heap.size w W3 := by rw [← hW3]; exact (((Below.refl _ w).alloc (Nat.le_refl _) _).alloc (by simp) _).alloc (by simp; omega) _
  have hsz3 : W3.heap.size = nb + 3 := by rw [← hW3, ← hnb]; simp
  have o0 : W3.heap[nb]? = some (.cells #[.int .u64 (spos : Int), .int .u64 (sdone : Int), .int .u64 (smade : Int), .slice saDe snDe scDe, .slice saIn snIn scIn, .slice saTk snTk scTk, .slice saJb slJb.length scJb, .slice saTm slTm.length scTm, .slice saSb snSb scSb, .slice saKp snKp scKp, .slice saLs snLs scLs, .slice saMs slMs.length scMs] 33 (0, 0)) := by
    rw [← hW3, ← hnb]
    exact (Below.heap_alloc _ _ _ (by simp; omega)).trans ((Below.heap_alloc _ _ _ (by simp)).trans (heap_alloc_new w _))
  have o1 : W3.heap[nb + 1]? = some (.cells #[.int .i64 now] 2 (0, 0)) := by
    rw [← hW3, ← hnb]
    have := heap_alloc_new (w.alloc (.cells #[.int .u64 (spos : Int), .int .u64 (sdone : Int), .int .u64 (smade : Int), .slice saDe snDe scDe, .slice saIn snIn scIn, .slice saTk snTk scTk, .slice saJb slJb.length scJb, .slice saTm slTm.length scTm, .slice saSb snSb scSb, .slice saKp snKp scKp, .slice saLs snLs scLs, .slice saMs slMs.length scMs] 33)) (.cells #[.int .i64 now] 2)
    rw [World.size_alloc] at this
    exact (Below.heap_alloc _ _ _ (by simp)).trans this
  have o2 : W3.heap[nb + 2]? = some (.cells #[.slice none 0 0] 37 (0, 0)) := by
    rw [← hW3, ← hnb]
    have := heap_alloc_new ((w.alloc (.cells #[.int .u64 (spos : Int), .int .u64 (sdone : Int), .int .u64 (smade : Int), .slice saDe snDe scDe, .slice saIn snIn scIn, .slice saTk snTk scTk, .slice saJb slJb.length scJb, .slice saTm slTm.length scTm, .slice saSb snSb scSb, .slice saKp snKp scKp, .slice saLs snLs scLs, .slice saMs slMs.length scMs] 33)).alloc (.cells #[.int .i64 now] 2)) (.cells #[.slice none 0 0] 37)
    rw [World.size_alloc, World.size_alloc] at this
    exact this
  have HG0 : Hid (Gt (nb + 2) W3 W3 []) := ⟨.slice none 0 0, ⟨fun r hr => by
    rcases List.mem_cons.1 hr with rfl | hr
    · exact ob.ok (Nat.le_refl _) o2 rfl
    · rw [List.mem_singleton] at hr
      subst hr
      exact World.ownsRow_nil _ _ _ _, List.pairwise_cons.2 ⟨fun q hq g _ hg' => (by rw [List.mem_singleton] at hq; subst hq; cases hg'), List.pairwise_singleton _ _⟩⟩, Below.refl _ _⟩
  have HB3 : Hid (Below w.heap.size w W3 ∧ W3.heap.size = nb + 3 ∧ W3.heap[nb]? = some (.cells #[.int .u64 (spos : Int), .int .u64 (sdone : Int), .int .u64 (smade : Int), .slice saDe snDe scDe, .slice saIn snIn scIn, .slice saTk snTk scTk, .slice saJb slJb.length scJb, .slice saTm slTm.length scTm, .slice saSb snSb scSb, .slice saKp snKp scKp, .slice saLs snLs scLs, .slice saMs slMs.length scMs] 33 (0, 0)) ∧ W3.cell? ⟨nb + 1, 0, none⟩ = some (.int .i64 now)) := ⟨hb3, hsz3, o0, by simp [World.cell?, o1]⟩
  have HGT : Hid (∀ (W : World) (L : List Rc), Gt (nb + 2) W3 W L → Below w.heap.size w W ∧ W.heap[nb]? = some (.cells #[.int .u64 (spos : Int), .int .u64 (sdone : Int), .int .u64 (smade : Int), .slice saDe snDe scDe, .slice saIn snIn scIn, .slice saTk snTk scTk, .slice saJb slJb.length scJb, .slice saTm slTm.length scTm, .slice saSb snSb scSb, .slice saKp snKp scKp, .slice saLs snLs scLs, .slice saMs slMs.length scMs] 33 (0, 0)) ∧ nb + 2 < W.heap.size) := fun W L hG => by
    obtain ⟨v, h1, h2⟩ := hG
    have h3 := (ob.lt h1 (List.mem_cons_self ..)).2
    exact ⟨HB3.out.1.trans (h2.mono (by omega)), (h2.block nb (by omega)).trans HB3.out.2.2.1, h3⟩
  have CG : ∀ (kd : Int) (key : Nat) (n : Int) (when : Int) (W : World) (L : List Rc), Gt (nb + 2) W3 W L → L.length ≤ slTm.length + slJb.length + slMs.length → Calls Tryz.prog 18 #[.int .i64 when, .agg #[.int .i64 0, .int .i64 kd, .int .u64 0, .int .i64 0, .int .u64 (key : Int), .int .u64 0, .int .u64 0, .int .i64 n, .int .i64 0, .string ⟨#[]⟩, .string ⟨#[]⟩, .string ⟨#[]⟩, .slice none 0 0], .pointer (some ⟨nb + 1, 0, none⟩), .pointer (some ⟨nb + 2, 0, none⟩)] W fun e w' => e = .returned (.tuple #[]) ∧ Gt (nb + 2) W3 w' (L ++ (if when ≤ now then [(⟨1, kd, 0, now, key, 0, 0, n, 0, [], [], [], .slice none 0 0, []⟩ : Rc)] else [])) := fun kd key n when W L hG hL => by
    have h := gather_any (now := now) (when := when) (r := (⟨0, kd, 0, 0, key, 0, 0, n, 0, [], [], [], .slice none 0 0, []⟩ : Rc)) hG (nb := nb + 1) (by omega) HB3.out.2.2.2 rfl (due_fit hL HZ.out.1 HZ.out.2.1 HZ.out.2.2)
    rw [ite_app] at h
    exact h
  have HCG : Hid _ := CG
  have HW3 : Hid (_ = W3) := hW3
  clear hb3 hsz3 o0 o1 o2 CG hW3
  subst hnb
  go_enter Tryz.func7, Tryz.ntmps7
  go_wp2_with fail
  rw [HW3.out]
  go_loopw [17] (fun v17 wr => ∃ i : Nat, v17 = .int .i64 (i : Int) ∧ i ≤ slTm.length ∧ Hid (Gt (w.heap.size + 2) W3 wr ((slTm.take i).flatMap (dTm now)))) (fun v17 _ => slTm.length - (intOf v17).toNat)
  case atStart => exact ⟨0, rfl, Nat.zero_le _, HG0⟩
  case round =>
    obtain ⟨i, rfl, hi, HR⟩ := hrel
    by_cases hlt : i < slTm.length
    · obtain ⟨hbw, hob, hlw⟩ := HGT.out _ _ HR.out
      obtain ⟨xb, xo, xc, hv, -, hxb, hcell⟩ := HS.out.rTm.at hlt
      obtain ⟨rfl, rfl⟩ : saTm = some ⟨xb, xo, none⟩ ∧ scTm = xc := by injection hv with e1 e2 e3; exact ⟨e1, e3⟩
      obtain ⟨x, hx⟩ : ∃ x, slTm[i] = x := ⟨_, rfl⟩
      have c0 := hcell wr hbw i hlt 0 _ rfl
      have c1 := hcell wr hbw i hlt 1 _ rfl
      have c2 := hcell wr hbw i hlt 2 _ rfl
      simp only [hx, Nat.add_zero] at c0 c1 c2
      have hl1 : ((slTm.take i).flatMap (dTm now)).length ≤ slTm.length + slJb.length + slMs.length := by
        have := fm_le1 (dTm_len now) (slTm.take i)
        rw [List.length_take] at this
        omega
      have HL1 : Hid (((slTm.take i).flatMap (dTm now)).length ≤ slTm.length + slJb.length + slMs.length) := hl1
      have HN : Hid (∀ w', Gt (w.heap.size + 2) W3 w' ((slTm.take i).flatMap (dTm now) ++ dTm now x) → Gt (w.heap.size + 2) W3 w' ((slTm.take (i + 1)).flatMap (dTm now))) := fun w' h => by rw [fm_snoc hlt, hx]; exact h
      have i1 : (0 : Int) ≤ (i : Int) := by omega
      have i2 : (i : Int) < (slTm.length : Int) := by omega
      have hw : wrap64 ((i : Int) + 1) = (i : Int) + 1 := by have h9 : slTm.length ≤ 1048576 := HZ.out.1; exact IntWalk.wrap64_in _ ⟨by omega, by omega⟩
      obtain ⟨x0, x1, x2⟩ := x
      simp only at c0 c1 c2
      clear hcell hv hx hob hl1
      go_wp2_with (go_at_call 18; refine (HCG.out 9 x0 x1 x2 _ _ (HR.out.up ((Below.refl _ wr).alloc (Nat.le_refl _) _)) HL1.out).mono ?_; rintro e w5 ⟨rfl, hG5⟩; (have HG5 : Hid (Gt (w.heap.size + 2) W3 w5 ((slTm.take i).flatMap (dTm now) ++ dTm now ⟨x0, x1, x2⟩)) := hG5); clear hG5)
      go_roundw
      case rel => exact ⟨i + 1, by rw [hw]; rfl, hlt, HN.out _ HG5.out⟩
      case measure => rw [hw]; exact due_less hlt
    · obtain rfl : i = slTm.length := by omega
      rw [List.take_length] at HR
      obtain ⟨A1, hA1⟩ : ∃ A1, slTm.flatMap (dTm now) = A1 := ⟨_, rfl⟩
      have HA1 : Hid (slTm.flatMap (dTm now) = A1 ∧ A1.length ≤ slTm.length) := ⟨hA1, by rw [← hA1]; exact fm_le1 (dTm_len now) _⟩
      rw [hA1] at HR
      clear hA1 hi hlt
      obtain ⟨hbw, hob, hlw⟩ := HGT.out _ _ HR.out
      have m6 : wr.cell? ⟨w.heap.size, 6, none⟩ = some (.slice saJb slJb.length scJb) := by simp [World.cell?, hob]
      clear hbw hob hlw
      generalize wr = wa at *
      go_wp2_with fail
      go_loopw [34] (fun v34 wr => ∃ i : Nat, v34 = .int .i64 (i : Int) ∧ i ≤ slJb.length ∧ Hid (Gt (w.heap.size + 2) W3 wr (A1 ++ (slJb.take i).flatMap (dJb now)))) (fun v34 _ => slJb.length - (intOf v34).toNat)
      case atStart => exact ⟨0, rfl, Nat.zero_le _, by have := HR.out; show Gt _ _ _ (A1 ++ []); rw [List.append_nil]; exact this⟩
      case round =>
        obtain ⟨i, rfl, hi, HR⟩ := hrel
        by_cases hlt : i < slJb.length
        · obtain ⟨hbw, hob, hlw⟩ := HGT.out _ _ HR.out
          obtain ⟨xb, xo, xc, hv, -, hxb, hcell⟩ := HS.out.rJb.at hlt
          obtain ⟨rfl, rfl⟩ : saJb = some ⟨xb, xo, none⟩ ∧ scJb = xc := by injection hv with e1 e2 e3; exact ⟨e1, e3⟩
          obtain ⟨x, hx⟩ : ∃ x, slJb[i] = x := ⟨_, rfl⟩
          have c0 := hcell wr hbw i hlt 0 _ rfl
          have c1 := hcell wr hbw i hlt 1 _ rfl
          have c2 := hcell wr hbw i hlt 2 _ rfl
          have c3 := hcell wr hbw i hlt 3 _ rfl
          have c4 := hcell wr hbw i hlt 4 _ rfl
          have c5 := hcell wr hbw i hlt 5 _ rfl
          simp only [hx, Nat.add_zero] at c0 c1 c2 c3 c4 c5
          have HL1 : Hid ((A1 ++ (slJb.take i).flatMap (dJb now)).length ≤ slTm.length + slJb.length + slMs.length) := by
            have h1 := fm_le1 (dJb_len now) (slJb.take i)
            have h2 := HA1.out.2
            rw [List.length_take] at h1
            show (A1 ++ (slJb.take i).flatMap (dJb now)).length ≤ _
            rw [List.length_append]
            omega
          have HN : Hid (∀ w', Gt (w.heap.size + 2) W3 w' (A1 ++ (slJb.take i).flatMap (dJb now) ++ dJb now x) → Gt (w.heap.size + 2) W3 w' (A1 ++ (slJb.take (i + 1)).flatMap (dJb now))) := fun w' h => by rw [fm_snoc hlt, hx, ← List.append_assoc]; exact h
          have i1 : (0 : Int) ≤ (i : Int) := by omega
          have i2 : (i : Int) < (slJb.length : Int) := by omega
          have hw : wrap64 ((i : Int) + 1) = (i : Int) + 1 := by have h9 : slJb.length ≤ 1048576 := HZ.out.2.1; exact IntWalk.wrap64_in _ ⟨by omega, by omega⟩
          obtain ⟨x0, x1, x2, x3, x4, x5⟩ := x
          have CF : ∀ W, Calls Tryz.prog 19 #[.agg #[.int .u64 (x0 : Int), .int .u64 (x1 : Int), .string (S x2), .int .i64 x3, .string (S x4), .int .i64 x5]] W _ := fun W => free_any (w := W) ⟨x0, x1, x2, x3, x4, x5⟩
          simp only at c0 c1 c2 c3 c4 c5 CF
          clear hcell hv hx hob
          cases hf : x4.isEmpty with
          | true =>
            have HD5 : Hid (dJb now ⟨x0, x1, x2, x3, x4, x5⟩ = []) := by show _ = _; unfold dJb; rw [if_neg (by simp only [hf]; simp)]
            rw [hf] at CF
            go_wp2_with (go_at_call 19; refine (CF _).mono ?_; rintro e w5 ⟨rfl, hb5⟩; (have H5 : Hid (Below wr.heap.size wr w5 ∧ w5.heap[wr.heap.size]? = some (.cells #[.int .u64 (x0 : Int), .int .u64 (x1 : Int), .string (S x2), .int .i64 x3, .string (S x4), .int .i64 x5] 46 (0, 0))) := ⟨bel_of ((Below.refl _ wr).alloc (Nat.le_refl _) _) hb5 (Nat.le_refl _), (hb5.block wr.heap.size (by simp)).trans (heap_alloc_new wr _)⟩); (have hz5 := H5.out.2); (have z0 : w5.cell? ⟨wr.heap.size, 0, none⟩ = some (.int .u64 (x0 : Int)) := by simp [World.cell?, hz5]); (have z5 : w5.cell? ⟨wr.heap.size, 5, none⟩ = some (.int .i64 x5) := by simp [World.cell?, hz5]); clear hb5 CF hz5)
            go_roundw
            case rel => exact ⟨i + 1, by rw [hw]; rfl, hlt, HN.out _ (by rw [HD5.out, List.append_nil]; exact HR.out.up H5.out.1)⟩
            case measure => rw [hw]; exact due_less hlt
          | false =>
            have HD5 : Hid (dJb now ⟨x0, x1, x2, x3, x4, x5⟩ = if x5 ≤ now then [(⟨1, 10, 0, now, x0, 0, 0, 0, 0, [], [], [], .slice none 0 0, []⟩ : Rc)] else []) := by show _ = _; unfold dJb; rw [if_pos hf]
            rw [hf] at CF
            go_wp2_with (first
              | (go_at_call 19; refine (CF _).mono ?_; rintro e w5 ⟨rfl, hb5⟩; (have H5 : Hid (Below wr.heap.size wr w5 ∧ w5.heap[wr.heap.size]? = some (.cells #[.int .u64 (x0 : Int), .int .u64 (x1 : Int), .string (S x2), .int .i64 x3, .string (S x4), .int .i64 x5] 46 (0, 0))) := ⟨bel_of ((Below.refl _ wr).alloc (Nat.le_refl _) _) hb5 (Nat.le_refl _), (hb5.block wr.heap.size (by simp)).trans (heap_alloc_new wr _)⟩); (have hz5 := H5.out.2); (have z0 : w5.cell? ⟨wr.heap.size, 0, none⟩ = some (.int .u64 (x0 : Int)) := by simp [World.cell?, hz5]); (have z5 : w5.cell? ⟨wr.heap.size, 5, none⟩ = some (.int .i64 x5) := by simp [World.cell?, hz5]); clear hb5 CF hz5)
              | (go_at_call 18; refine (HCG.out 10 x0 0 x5 _ _ (HR.out.up H5.out.1) HL1.out).mono ?_; rintro e w6 ⟨rfl, hG6⟩; (have HG6 : Hid (Gt (w.heap.size + 2) W3 w6 (A1 ++ (slJb.take i).flatMap (dJb now) ++ dJb now ⟨x0, x1, x2, x3, x4, x5⟩)) := by rw [HD5.out]; exact hG6); clear hG6))
            go_roundw
            case rel => exact ⟨i + 1, by rw [hw]; rfl, hlt, HN.out _ HG6.out⟩
            case measure => rw [hw]; exact due_less hlt
        · obtain rfl : i = slJb.length := by omega
          rw [List.take_length] at HR
          obtain ⟨A2, hA2⟩ : ∃ A2, A1 ++ slJb.flatMap (dJb now) = A2 := ⟨_, rfl⟩
          have HA2 : Hid (A1 ++ slJb.flatMap (dJb now) = A2 ∧ A2.length ≤ slTm.length + slJb.length) := ⟨hA2, by
            have h1 := fm_le1 (dJb_len now) slJb
            have h2 := HA1.out.2
            rw [← hA2, List.length_append]
            omega⟩
          rw [hA2] at HR
          clear hA2 hi hlt m6
          obtain ⟨hbw, hob, hlw⟩ := HGT.out _ _ HR.out
          have m11 : wr.cell? ⟨w.heap.size, 11, none⟩ = some (.slice saMs slMs.length scMs) := by simp [World.cell?, hob]
          clear hbw hob hlw
          generalize wr = wb at *
          go_wp2_with fail
          go_loopw [52] (fun v52 wr => ∃ i : Nat, v52 = .int .i64 (i : Int) ∧ i ≤ slMs.length ∧ Hid (Gt (w.heap.size + 2) W3 wr (A2 ++ (slMs.take i).flatMap (dMs now)))) (fun v52 _ => slMs.length - (intOf v52).toNat)
          case atStart => exact ⟨0, rfl, Nat.zero_le _, by have := HR.out; show Gt _ _ _ (A2 ++ []); rw [List.append_nil]; exact this⟩
          case round =>
            obtain ⟨i, rfl, hi, HR⟩ := hrel
            by_cases hlt : i < slMs.length
            · obtain ⟨hbw, hob, hlw⟩ := HGT.out _ _ HR.out
              obtain ⟨xb, xo, xc, hv, -, hxb, hcell⟩ := HS.out.rMs.at hlt
              obtain ⟨rfl, rfl⟩ : saMs = some ⟨xb, xo, none⟩ ∧ scMs = xc := by injection hv with e1 e2 e3; exact ⟨e1, e3⟩
              have hiv := HS.out.iMs _ (List.getElem_mem hlt)
              have hqv := HS.out.qMs _ (List.getElem_mem hlt)
              obtain ⟨x, hx⟩ : ∃ x, slMs[i] = x := ⟨_, rfl⟩
              rw [hx] at hiv hqv
              have c0 := hcell wr hbw i hlt 0 _ rfl
              have c1 := hcell wr hbw i hlt 1 _ rfl
              have c2 := hcell wr hbw i hlt 2 _ rfl
              have c3 := hcell wr hbw i hlt 3 _ rfl
              have c4 := hcell wr hbw i hlt 4 _ rfl
              have c5 := hcell wr hbw i hlt 5 _ rfl
              have c6 := hcell wr hbw i hlt 6 _ rfl
              simp only [hx, Nat.add_zero] at c0 c1 c2 c3 c4 c5 c6
              have HL1 : Hid ((A2 ++ (slMs.take i).flatMap (dMs now)).length ≤ slTm.length + slJb.length + slMs.length) := by
                have h1 := fm_le1 (dMs_len now) (slMs.take i)
                have h2 := HA2.out.2
                rw [List.length_take] at h1
                show (A2 ++ (slMs.take i).flatMap (dMs now)).length ≤ _
                rw [List.length_append]
                omega
              have HN : Hid (∀ w', Gt (w.heap.size + 2) W3 w' (A2 ++ (slMs.take i).flatMap (dMs now) ++ dMs now x) → Gt (w.heap.size + 2) W3 w' (A2 ++ (slMs.take (i + 1)).flatMap (dMs now))) := fun w' h => by rw [fm_snoc hlt, hx, ← List.append_assoc]; exact h
              have i1 : (0 : Int) ≤ (i : Int) := by omega
              have i2 : (i : Int) < (slMs.length : Int) := by omega
              have hw : wrap64 ((i : Int) + 1) = (i : Int) + 1 := by have h9 : slMs.length ≤ 1048576 := HZ.out.2.2; exact IntWalk.wrap64_in _ ⟨by omega, by omega⟩
              obtain ⟨x0, x1, x2, x3, x4, x5, x6, x7, x8⟩ := x
              simp only at c0 c1 c2 c3 c4 c5 c6 hiv hqv
              obtain ⟨va, vc, rfl, -⟩ := hiv
              obtain ⟨ia, ic, rfl, -⟩ := hqv
              clear hcell hv hx hob
              go_wp2_with (go_at_call 18; refine (HCG.out 11 x0 0 x4 _ _ (HR.out.up ((Below.refl _ wr).alloc (Nat.le_refl _) _)) HL1.out).mono ?_; rintro e w5 ⟨rfl, hG5⟩; (have HG5 : Hid (Gt (w.heap.size + 2) W3 w5 (A2 ++ (slMs.take i).flatMap (dMs now) ++ dMs now ⟨x0, x1, x2, x3, x4, .slice va x7.length vc, .slice ia x8.length ic, x7, x8⟩)) := hG5); clear hG5)
              go_roundw
              case rel => exact ⟨i + 1, by rw [hw]; rfl, hlt, HN.out _ HG5.out⟩
              case measure => rw [hw]; exact due_less hlt
            · obtain rfl : i = slMs.length := by omega
              rw [List.take_length] at HR
              have HE : Hid (A2 ++ slMs.flatMap (dMs now) = DL) := by
                have h1 : DL = slTm.flatMap (dTm now) ++ slJb.flatMap (dJb now) ++ slMs.flatMap (dMs now) := HD.out
                rw [h1, HA1.out.1, HA2.out.1]
                rfl
              rw [HE.out] at HR
              clear hi hlt m11
              obtain ⟨hbw, -, -⟩ := HGT.out _ _ HR.out
              have HBw : Hid (Below w.heap.size w wr) := hbw
              obtain ⟨v, hO, -⟩ := HR.out
              have hrow : wr.ownsRow (w.heap.size + 2) 63 13 v DL.length (DL.flatMap Rc.cs) := hO.own (Rc.rw v DL) (List.mem_cons_of_mem _ (List.mem_cons_self ..))
              have hbl := ob.obj hO (List.mem_cons_self ..)
              obtain ⟨ea, ec, rfl, -⟩ := row_slice hrow
              have HROW : Hid (wr.ownsRow w.heap.size 63 13 (.slice ea DL.length ec) DL.length (DL.flatMap Rc.cs)) := (Own.base hO (Nat.le_add_right _ _)).own (Rc.rw (.slice ea DL.length ec) DL) (List.mem_cons_of_mem _ (List.mem_cons_self ..))
              have ml : wr.cell? ⟨w.heap.size + 2, 0, none⟩ = some (.slice ea DL.length ec) := by simp [World.cell?, hbl]
              clear hbw hO hrow hbl
              go_wp2_with fail
              go_ret
              exact ⟨_, rfl, HROW.out, HBw.out⟩
end Go.Proofs.YthmfcloecmnfnaaGreat.f13

/-
  Proved: for every texts, and whatever follows, FrameJoins answers true, and changes nothing that was there before the call: frames that stand one behind the other are those of the first bytes, and then those of the others. No condition.
-/
import Derived.Test.YtbnfmaooailfeaaF5Shown
import Derived.Test.YtbnfmaooailfeaaF5Walk2
import Derived.Test.YtbnfmaooailfeaaF5Join
import Derived.Test.YtbnfmaooailfeaaWList
import Derived.Test.YtbnfmaooailfeaaF5Args
namespace Go.Proofs.Ytbnfmaooailfeaa.frameJoins
open Go.RowKit Go.Shelf Go.Sort
open Go.Lib hiding intOf

attribute [local go_sem] Oper.semAt_some

/-- what the call has laid -/
structure Fj (w : World) (v : Value) (W : World) : Prop where
  l : Bx W w.heap.size v 54
  r : Bx W (w.heap.size + 1) (.bool false) 4
  b : Below w.heap.size w W
theorem Fj.below {w W W' : World} {v : Value} (h : Fj w v W) (hb : Below W.heap.size W W') : Fj w v W' :=
  ⟨h.l.below hb h.l.lt, h.r.below hb h.r.lt, h.b.trans (hb.mono h.b.size)⟩
theorem Fj.sb {w W W' : World} {v : Value} {n s : Nat} (h : Fj w v W) (hs : Sb n s W W') (hn : w.heap.size + 2 ≤ n) : Fj w v W' :=
  ⟨hs.bx h.l (.inl (by omega)), hs.bx h.r (.inl (by omega)), hs.below h.b (Nat.le_refl _) (by omega)⟩

theorem Fj.step {w W : World} {v : Value} {b : Nat} (h : Fj w v W) (hb : w.heap.size + 2 ≤ b) (y : Value) : Fj w v (W.setCell ⟨b, 0, none⟩ y) := by
  have hc : Ch (fun k => k = b) W (W.setCell ⟨b, 0, none⟩ y) := (Ch.refl _ W).setCell _ _ (fun _ => rfl)
  exact ⟨h.l.ch hc (by omega), h.r.ch hc (by omega), h.b.setCell (by simp only; omega) _⟩
theorem bx_step {W : World} {b : Nat} {x : Value} {t : TypeId} (h : Bx W b x t) (y : Value) (B : Nat) (X : Nat → Prop) (hX : ∀ k, X k → k ≠ b) : KeepsFrom B W (W.setCell ⟨b, 0, none⟩ y) ∧ Kq X W (W.setCell ⟨b, 0, none⟩ y) ∧ Bx (W.setCell ⟨b, 0, none⟩ y) b y t := by
  have hc : Ch (fun k => k = b) W (W.setCell ⟨b, 0, none⟩ y) := (Ch.refl _ W).setCell _ _ (fun _ => rfl)
  exact ⟨KeepsFrom.of_ch hc (fun k e => by subst e; exact ⟨_, h, rfl⟩), Kq.of_ch hc (fun k hk e => hX k hk e), one0 h _⟩

set_option maxHeartbeats 4000000 in
set_option maxRecDepth 100000 in
theorem walk (v : Value) (ls : List (List UInt8)) (more : List UInt8) (w : World) (hv : Strs w v ls) (hn : ls.length ≤ 8796093022208) (hm : more.length ≤ 140737488351232) :
    Calls Try.prog 8 #[v, .string (S more)] w fun r w' => r = .returned (.bool true) ∧ Below w.heap.size w w' := by
  have hsm := S_size more
  have HV : Hid (Strs w v ls) := hv
  obtain ⟨a, cap, rfl, hcs⟩ := hv
  refine (callsIn_wide (n := 9)).1 ?_
  refine callsIn_of_wp_marks Try.func8 rfl trivial ?_ rfl
  simp only [Try.ntmps8, List.size_toArray, List.length_cons, List.length_nil, Nat.reduceAdd, Nat.reduceSub, Array.replicate_succ, Array.replicate_zero, List.push_toArray, List.append_toArray, List.nil_append, List.cons_append]
  obtain ⟨W2, hW2⟩ : ∃ W2, W2 = (w.alloc (.cells #[.slice a ls.length cap] 54)).alloc (.cells #[.bool false] 4) := ⟨_, rfl⟩
  have hs2 : W2.heap.size = w.heap.size + 1 + 1 := by rw [hW2]; simp
  have F2 : Fj w (.slice a ls.length cap) W2 := by
    rw [hW2]
    refine ⟨(Bx.new w _ _).alloc _, ?_, ((Below.refl _ w).alloc (Nat.le_refl _) _).alloc (by simp) _⟩
    have := Bx.new (w.alloc (.cells #[.slice a ls.length cap] 54)) (.bool false) 4
    rwa [World.size_alloc] at this
  gi_wp2_with (first
    | (refine ⟨trivial, ?_⟩; gi_at_call 9; rw [← hW2]; refine (callsIn_wide.2 (shown_any _)).mono ?_; rintro e w3 ⟨rfl, hB3⟩))
  have F3 := F2.below hB3
  have hs3 := hB3.size
  gi_loopw [6, 7, 8] (fun vs vn vi wr => ∃ k : Nat, k ≤ ls.length ∧ vi = .int .i64 (k : Int) ∧ vs = .string (S (jns 0 (ls.take k))) ∧ vn = .int .i64 ((jns 0 (ls.take k)).length : Int) ∧ (∀ x ∈ ls.take k, x.length ≤ 65536) ∧ Fj w (.slice a ls.length cap) wr ∧ w.heap.size + 2 ≤ wr.heap.size) (fun _ _ vi _ => ls.length - (intOf vi).toNat)
  case atStart => exact ⟨0, Nat.zero_le _, rfl, rfl, rfl, (fun x hx => by simp at hx), F3, by omega⟩
  case round =>
    obtain ⟨k, hk, rfl, rfl, rfl, hall, hF, hsw⟩ := hrel
    have cl := hF.l.cell
    have cr := hF.r.cell
    have frr := hF.r.fro
    have hjl := jns_le 0 (ls.take k) hall
    rw [List.length_take] at hjl
    by_cases hlt : k < ls.length
    · have hki : (k : Int) < (ls.length : Int) := by omega
      obtain ⟨b, off, rfl, hbl, hcj⟩ : ∃ b off, a = some ⟨b, off, none⟩ ∧ b < w.heap.size ∧ ∀ j, j < ls.length → w.cell? ⟨b, off + j, none⟩ = some (.string (S (ls.getD j []))) := by
        rcases hcs with h | h
        · rw [h] at hlt; simp at hlt
        · exact h
      have ck := (hF.b.cell (p := ⟨b, off + k, none⟩) hbl).trans (hcj k hlt)
      have hg : ls.getD k [] = ls[k] := by simp [List.getD, hlt]
      rw [hg] at ck
      have hsx := S_size ls[k]
      have HF : Hid (Fj w (.slice (some ⟨b, off, none⟩) ls.length cap) wr) := hF
      by_cases hx : 65536 < ls[k].length
      · have hx' : (65536 : Int) < (ls[k].length : Int) := by omega
        clear hF hcj hg
        gi_wp2
        have c4 := (one0 HF.out.r (.bool true)).cell
        exact ⟨.bool true, by simp [results, Try.results8, go_sem, c4], rfl, HF.out.b.setCell (by simp) _⟩
      · have hx' : ¬ (65536 : Int) < (ls[k].length : Int) := by omega
        have hkb := ofNat_byte k
        have hfl := frm_le (UInt8.ofNat k) ls[k] (by omega)
        have hz1 := S_size (jns 0 (ls.take k))
        have hz2 := S_size (frm (UInt8.ofNat k) ls[k])
        have hap : S (jns 0 (ls.take k)) ++ S (frm (UInt8.ofNat k) ls[k]) = S (jns 0 (ls.take k) ++ frm (UInt8.ofNat k) ls[k]) := S_append _ _
        have HN : Hid (jns 0 (ls.take (k + 1)) = jns 0 (ls.take k) ++ frm (UInt8.ofNat k) ls[k]) := jns_take hlt
        have HA : Hid (∀ x ∈ ls.take (k + 1), x.length ≤ 65536) := by
          intro x hx2
          rw [List.take_succ_eq_append_getElem hlt] at hx2
          rcases List.mem_append.1 hx2 with h | h
          · exact hall x h
          · simp at h; subst h; omega
        have hput := fun w => Put_any (UInt8.ofNat k) ls[k] (by omega) w
        have hjl2 : (jns 0 (ls.take k)).length ≤ 1152921504606846976 := by omega
        generalize UInt8.ofNat k = kb at *
        generalize frm kb ls[k] = fk at *
        generalize jns 0 (ls.take k) = jk at *
        clear hF hcj hg hall hjl
        gi_wp2_with (first
          | (refine ⟨trivial, ?_⟩; gi_at_call 10; refine (callsIn_wide.2 (hput _)).mono ?_; rintro e w4 ⟨rfl, hB4⟩))
        go_roundw
        case rel => exact ⟨k + 1, by omega, by simp, by rw [HN.out], by rw [HN.out, List.length_append]; simp, HA.out, HF.out.below hB4, by have := hB4.size; omega⟩
        case measure => simp [intOf]; omega
    · obtain rfl : k = ls.length := by omega
      rw [List.take_length] at hall hjl ⊢
      have hz1 := S_size (jns 0 ls)
      have hap : S (jns 0 ls) ++ S more = S (jns 0 ls ++ more) := S_append _ _
      have hal : (jns 0 ls ++ more).length ≤ 4611686018427387904 := by rw [List.length_append]; omega
      have hjl2 : (jns 0 ls).length ≤ 1152921504606846976 := by omega
      have HE : Hid (fra (jns 0 ls ++ more) = fms 0 ls ++ fra more) := fra_jns 0 ls more hall
      have HG : Hid (god (fra (jns 0 ls ++ more)) = (jns 0 ls).length + god (fra more)) := by show _ = _; rw [HE.out, god_append, god_fms]
      have HL : Hid ((fra (jns 0 ls ++ more)).length = ls.length + (fra more).length) := by show _ = _; rw [HE.out, List.length_append, fms_length]
      have hf1 := fra_len _ (jns 0 ls ++ more) (Nat.le_refl _)
      have hf2 := fra_len _ more (Nat.le_refl _)
      have hg2 := god_le _ more (Nat.le_refl _)
      have hwk1 := fun w => Walk_any (jns 0 ls ++ more) hal w
      have hwk2 := fun w => Walk_any more (by omega) w
      have hgd1 := fun w => Good_any (jns 0 ls ++ more) hal w
      have hgd2 := fun w => Good_any more (by omega) w
      rw [HG.out] at hgd1
      generalize hsj : jns 0 ls = sj at *
      clear hcs hall hjl hsj
      obtain ⟨wi, hwi⟩ : ∃ wi, wr.heap.size = wi := ⟨_, rfl⟩
      obtain ⟨Wi, hWi⟩ : ∃ Wi, Wi = wr.alloc (.cells #[.int .i64 0] 3) := ⟨_, rfl⟩
      have hsi : Wi.heap.size = wi + 1 := by rw [hWi, ← hwi]; simp
      have bi : Bx Wi wi (.int .i64 0) 3 := by rw [hWi, ← hwi]; exact Bx.new wr _ _
      have Fi : Fj w (.slice a ls.length cap) Wi := by rw [hWi]; exact hF.below ((Below.refl _ wr).alloc (Nat.le_refl _) _)
      clear hF
      gi_wp2_with (first
        | (refine ⟨trivial, ?_⟩; gi_at_call 17; rw [← hWi]; refine (callsIn_wide.2 (hwk1 _)).mono ?_; rintro e w5 ⟨rfl, hS5, hB5, hz5⟩; rw [hsi] at hS5 hz5; have hz5' : wi + 2 ≤ w5.heap.size := (by omega); clear hz5))
      have F5 := Fi.below hB5
      have b5 := bi.below hB5 bi.lt
      refine range_sq2 (r1 := 12) (r2 := 13) (e1 := fun x : Fr => .int .u8 (x.1.toNat : Int)) (e2 := fun x : Fr => .string (S x.2.1)) rfl hS5
        (fun s pre W => Fj w (.slice a ls.length cap) W ∧ Bx W wi (.int .i64 (pre.length : Int)) 3 ∧ w5.heap.size + 2 ≤ s)
        (fun _ _ _ _ => False)
        ?hI ?hIx ?start ?assign ?body ?done ?stop
      case hI =>
        rintro s pre A B ⟨h1, h2, h3⟩ hs
        exact ⟨h1.sb hs (by omega), hs.bx h2 (.inl (by omega)), h3⟩
      case hIx => rintro s c pre A B h; exact h.elim
      case start =>
        intro W0 hB h0
        exact ⟨F5.below hB, b5.below hB b5.lt, h0⟩
      case assign =>
        intro mm l' x W K hK
        gi_wp2
        exact hK
      case stop => rintro s c pre W h; exact h.elim
      case body =>
        rintro mm l' s pre x Wp W ⟨h1, h2, h3⟩ hsb hnx
        have h1' := h1.sb hsb (by omega)
        have h2' := hsb.bx h2 (.inl (by omega))
        have hpl : pre.length + 1 ≤ (fra (sj ++ more)).length := by have := hnx.length_le; simpa using this
        have hxg : (fra (sj ++ more))[pre.length]? = some x := by
          obtain ⟨t, ht⟩ := hnx
          rw [← ht]; simp
        have cl := h1'.l.cell
        have ci := h2'.cell
        have fi := h2'.fro
        have hzl : (sj ++ more).length = sj.length + more.length := List.length_append
        have HB : Hid (Fj w (.slice a ls.length cap) W ∧ Bx W wi (.int .i64 (pre.length : Int)) 3) := ⟨h1', h2'⟩
        have fin : Hid (∀ y : Value, y = .int .i64 ((pre ++ [x]).length : Int) → KeepsFrom w5.heap.size W (W.setCell ⟨wi, 0, none⟩ y) ∧ Kq (fun k => k = wi + 1 ∨ (w5.heap.size + 2 ≤ k ∧ k < s) ∨ (Wp.heap.size ≤ k ∧ k < W.heap.size)) W (W.setCell ⟨wi, 0, none⟩ y) ∧ Fj w (.slice a ls.length cap) (W.setCell ⟨wi, 0, none⟩ y) ∧ Bx (W.setCell ⟨wi, 0, none⟩ y) wi (.int .i64 ((pre ++ [x]).length : Int)) 3) := by
          rintro y rfl
          have hwl := h2.lt
          obtain ⟨f1, f2, f3⟩ := bx_step h2' (.int .i64 ((pre ++ [x]).length : Int)) w5.heap.size (fun k => k = wi + 1 ∨ (w5.heap.size + 2 ≤ k ∧ k < s) ∨ (Wp.heap.size ≤ k ∧ k < W.heap.size)) (fun k hk => by omega)
          exact ⟨f1, f2, h1'.step (by omega) _, f3⟩
        simp only [List.setIfInBounds_toArray, List.set_cons_succ, List.set_cons_zero]
        by_cases hlt2 : pre.length < ls.length
        · have hp0 : (pre.length : Int) < (ls.length : Int) := by omega
          rw [HE.out, List.getElem?_append_left (by rw [fms_length]; exact hlt2), fms_get 0 ls _ hlt2, Nat.zero_add] at hxg
          have hx := Option.some.inj hxg
          have hx1 : x.1 = UInt8.ofNat pre.length := by rw [← hx]
          have hx2 : x.2.1 = ls[pre.length] := by rw [← hx]
          have hkb := ofNat_byte pre.length
          rw [← hx1] at hkb
          obtain ⟨b, off, hab, hbl, hcj⟩ : ∃ b off, a = some ⟨b, off, none⟩ ∧ b < w.heap.size ∧ ∀ j, j < ls.length → w.cell? ⟨b, off + j, none⟩ = some (.string (S (ls.getD j []))) := by
            obtain ⟨a', cap', e, hcs⟩ := HV.out
            cases e
            rcases hcs with h | h
            · rw [h] at hlt2; simp at hlt2
            · exact h
          subst hab
          have ck := (h1'.b.cell (p := ⟨b, off + pre.length, none⟩) hbl).trans (hcj _ hlt2)
          have hg : ls.getD pre.length [] = ls[pre.length] := by simp [List.getD, hlt2]
          rw [hg, ← hx2] at ck
          clear hx1 hx2 hx hxg hg hcj h1 h2 h1' h2' hnx
          generalize x.1 = xk at *
          generalize x.2.1 = xl at *
          gi_wp2
          obtain ⟨f1, f2, f3, f4⟩ := fin.out (.int .i64 ((pre.length : Int) + 1)) (by simp)
          first | exact ⟨f1, f2, f3, f4, h3⟩ | exact ⟨f1, f2, f3, f4⟩
        · have hp0 : ¬ (pre.length : Int) < (ls.length : Int) := by omega
          clear hxg h1 h2 h1' h2' hnx
          gi_wp2
          obtain ⟨f1, f2, f3, f4⟩ := fin.out (.int .i64 ((pre.length : Int) + 1)) (by simp)
          first | exact ⟨f1, f2, f3, f4, h3⟩ | exact ⟨f1, f2, f3, f4⟩
      case done =>
        rintro s W ⟨h1, h2, h3⟩ hD
        rw [HL.out] at h2
        obtain ⟨wq, hwq⟩ : ∃ wq, W.heap.size = wq := ⟨_, rfl⟩
        have hDl := (Array.getElem?_eq_some_iff.1 hD).1
        obtain ⟨Wq, hWq⟩ : ∃ Wq, Wq = W.alloc (.cells #[.int .i64 0] 3) := ⟨_, rfl⟩
        have hBq : Below W.heap.size W Wq := by rw [hWq]; exact (Below.refl _ W).alloc (Nat.le_refl _) _
        have hsq : Wq.heap.size = wq + 1 := by rw [hWq, ← hwq]; simp
        have bq : Bx Wq wq (.int .i64 0) 3 := by rw [hWq, ← hwq]; exact Bx.new W _ _
        have Fq := h1.below hBq
        have b2q := h2.below hBq h2.lt
        have hDq := (hBq.block _ hDl).trans hD
        clear h1 h2 hD hBq
        gi_wp2_with (first
          | (refine ⟨trivial, ?_⟩; gi_at_call 17; rw [← hWq]; refine (callsIn_wide.2 (hwk2 _)).mono ?_; rintro e w7 ⟨rfl, hS7, hB7, hz7⟩; rw [hsq] at hS7 hz7; have hz7' : wq + 2 ≤ w7.heap.size := (by omega); clear hz7))
        have F7 := Fq.below hB7
        have b7 := bq.below hB7 bq.lt
        have b27 := b2q.below hB7 b2q.lt
        have hD7 := (hB7.block _ (by omega)).trans hDq
        clear Fq bq b2q hDq
        refine range_sq2 (r1 := 77) (r2 := 78) (e1 := fun x : Fr => .int .u8 (x.1.toNat : Int)) (e2 := fun x : Fr => .string (S x.2.1)) rfl hS7
          (fun s pre W => Fj w (.slice a ls.length cap) W ∧ Bx W wq (.int .i64 (pre.length : Int)) 3 ∧ Bx W wi (.int .i64 ((ls.length + (fra more).length : Nat) : Int)) 3 ∧ W.heap[w5.heap.size]? = some (.deferred (some [])) ∧ w7.heap.size + 2 ≤ s)
          (fun _ _ _ _ => False)
          ?hI2 ?hIx2 ?start2 ?assign2 ?body2 ?done2 ?stop2
        case hI2 =>
          rintro s pre A B ⟨h1, h2, h3, h4, h5⟩ hs
          exact ⟨h1.sb hs (by omega), hs.bx h2 (.inl (by omega)), hs.bx h3 (.inl (by omega)), Ch.obj hs h4 (fun h => by omega), h5⟩
        case hIx2 => rintro s c pre A B h; exact h.elim
        case start2 =>
          intro W0 hB h0
          exact ⟨F7.below hB, b7.below hB b7.lt, b27.below hB b27.lt, (hB.block _ (by omega)).trans hD7, h0⟩
        case assign2 =>
          intro mm l' x W K hK
          gi_wp2
          exact hK
        case stop2 => rintro s c pre W h; exact h.elim
        case body2 =>
          rintro mm l' s pre x Wp W ⟨h1, h2, h3, h4, h5⟩ hsb hnx
          have h1' := h1.sb hsb (by omega)
          have h2' := hsb.bx h2 (.inl (by omega))
          have h3' := hsb.bx h3 (.inl (by omega))
          have h4' := Ch.obj hsb h4 (fun h => by omega)
          have hpl : pre.length + 1 ≤ (fra more).length := by have := hnx.length_le; simpa using this
          have ci := h2'.cell
          have fi := h2'.fro
          have fin : Hid (∀ y : Value, y = .int .i64 ((pre ++ [x]).length : Int) → KeepsFrom w7.heap.size W (W.setCell ⟨wq, 0, none⟩ y) ∧ Kq (fun k => k = wq + 1 ∨ (w7.heap.size + 2 ≤ k ∧ k < s) ∨ (Wp.heap.size ≤ k ∧ k < W.heap.size)) W (W.setCell ⟨wq, 0, none⟩ y) ∧ Fj w (.slice a ls.length cap) (W.setCell ⟨wq, 0, none⟩ y) ∧ Bx (W.setCell ⟨wq, 0, none⟩ y) wq (.int .i64 ((pre ++ [x]).length : Int)) 3 ∧ Bx (W.setCell ⟨wq, 0, none⟩ y) wi (.int .i64 ((ls.length + (fra more).length : Nat) : Int)) 3 ∧ (W.setCell ⟨wq, 0, none⟩ y).heap[w5.heap.size]? = some (.deferred (some []))) := by
            rintro y rfl
            have hwl := h2.lt
            have hc : Ch (fun k => k = wq) W (W.setCell ⟨wq, 0, none⟩ (.int .i64 ((pre ++ [x]).length : Int))) := (Ch.refl _ W).setCell _ _ (fun _ => rfl)
            obtain ⟨f1, f2, f3⟩ := bx_step h2' (.int .i64 ((pre ++ [x]).length : Int)) w7.heap.size (fun k => k = wq + 1 ∨ (w7.heap.size + 2 ≤ k ∧ k < s) ∨ (Wp.heap.size ≤ k ∧ k < W.heap.size)) (fun k hk => by omega)
            exact ⟨f1, f2, h1'.step (by omega) _, f3, h3'.ch hc (by omega), hc.obj h4' (by omega)⟩
          simp only [List.setIfInBounds_toArray, List.set_cons_succ, List.set_cons_zero]
          clear h1 h2 h3 h4 h1' h2' h3' h4' hnx
          gi_wp2
          obtain ⟨f1, f2, f3, f4, f5, f6⟩ := fin.out (.int .i64 ((pre.length : Int) + 1)) (by simp)
          first | exact ⟨f1, f2, f3, f4, f5, f6, h5⟩ | exact ⟨f1, f2, f3, f4, f5, f6⟩
        case done2 =>
          rintro s W ⟨h1, h2, h3, h4, h5⟩ hD
          have cl := h1.l.cell
          have cq := h2.cell
          have ci := h3.cell
          have hsum : ((ls.length + (fra more).length : Nat) : Int) = (ls.length : Int) + ((fra more).length : Int) := by omega
          have hgs : ((sj.length + god (fra more) : Nat) : Int) = (sj.length : Int) + (god (fra more) : Int) := by omega
          rw [hsum] at ci
          rw [hgs] at hgd1
          have H1 : Hid (Fj w (.slice a ls.length cap) W ∧ W.heap[w5.heap.size]? = some (.deferred (some [])) ∧ W.heap[w7.heap.size]? = some (.deferred (some []))) := ⟨h1, h4, hD⟩
          clear h1 h2 h3 h4 hD hsum hgs hwk1 HE HG HL hal hf1 hS5
          generalize sj ++ more = sm at *
          gi_wp2_with (first
            | (refine ⟨trivial, ?_⟩; gi_at_call 18; refine (callsIn_wide.2 (hgd1 _)).mono ?_; rintro e w8 ⟨rfl, hB8⟩; clear hgd1)
            | (refine ⟨trivial, ?_⟩; gi_at_call 18; refine (callsIn_wide.2 (hgd2 _)).mono ?_; rintro e w9 ⟨rfl, hB9⟩; have F9 := (H1.out.1.below hB8).below hB9; have c9 := F9.r.cell; have f9 := F9.r.fro; have HF9 : Hid (Fj w (.slice a ls.length cap) w9) := F9; clear F9 hgd2))
          have hc9 : Ch (fun k => k = w.heap.size + 1) w9 (w9.setCell ⟨w.heap.size + 1, 0, none⟩ (.bool true)) := (Ch.refl _ w9).setCell _ _ (fun _ => rfl)
          have up : ∀ k, W.heap[k]? = some (.deferred (some [])) → w.heap.size + 2 ≤ k → (w9.setCell ⟨w.heap.size + 1, 0, none⟩ (.bool true)).heap[k]? = some (.deferred (some [])) := fun k hk hkw => by
            have hkl := (Array.getElem?_eq_some_iff.1 hk).1
            exact hc9.obj ((hB9.block _ (Nat.lt_of_lt_of_le hkl hB8.size)).trans ((hB8.block _ hkl).trans hk)) (by omega)
          have hd1 := up _ H1.out.2.2 (by omega)
          have hd2 := up _ H1.out.2.1 (by omega)
          have hd2' := (World.putObj_heap_other (o := .deferred none) (show w5.heap.size ≠ w7.heap.size by omega)).trans hd2
          have hr9 := one0 HF9.out.r (.bool true)
          have hr9' : Bx (((w9.setCell ⟨w.heap.size + 1, 0, none⟩ (.bool true)).putObj w7.heap.size (.deferred none)).putObj w5.heap.size (.deferred none)) (w.heap.size + 1) (.bool true) 4 := (World.putObj_heap_other (by omega)).trans ((World.putObj_heap_other (by omega)).trans hr9)
          have c10 := hr9'.cell
          refine ⟨by simp, .inl ⟨_, _, rfl, takes hd1, ?_⟩⟩
          refine ⟨by simp, .inl ⟨_, _, rfl, takes hd2', ?_⟩⟩
          refine ⟨.bool true, ?res, rfl, below_take (below_take (HF9.out.b.setCell (by simp) _) (Nat.le_refl _) (by omega) _) (Nat.le_refl _) (by omega) _⟩
          case res => simp [results, Try.results8, go_sem, c10]

open Go.ChangeShapes Go.WideShapes Go.ChangeAt
open Go.ChangeMaps (open_string shut_string)
theorem own : ownKnob Try.prog.godebug = none := by kernel_rfl

set_option maxRecDepth 100000 in
theorem lifted (os : Os) (started : os.Started) (H : Type) (enc : TypeId × Value → H) :
    ReturnsInHanded {} Try.checked os 8 .any (Rows.frameJoinsSpec.pre6 enc Try.prog Try.f8 Rows.frameJoinsRow.domain false) (Rows.frameJoinsSpec.post enc Try.prog Try.f8 false true false false) := by
  refine returnsInHanded_of_change_sized (C := Try.checked) own started (by kernel_rfl) Try.func8
    (ChangeSpec.witness6 (enc := enc) (C := Try.checked) false ⟨#[], #[.slice none 0 0, .string .empty], []⟩ 8 (by kernel_rfl) (by kernel_rfl) (by kernel_rfl) (by kernel_rfl)) ?_
  intro W base args ds gs before hval0 hW hcnd hsz0 _
  have hval : ∀ (j : Nat) t v, Try.f8.params[j]? = some t → args[j]? = some v → Value.okWide Try.prog W .any base t v := hval0
  have hsz : (DataW.weightsEach Try.prog (Try.f8.params.toList ++ Rows.frameJoinsSpec.plain.varTypes Try.prog) (ds ++ gs)).all (· ≤ reachBytes) = true := hsz0
  have hW' := hW
  obtain ⟨p, q, hA0, hV, rfl, hfz, hnd⟩ := hW
  have hA : DataW.TrodAll enc Try.prog W 0 (fun _ => true) true Try.f8.params.toList args.toList ds p := hA0
  rw [Try.params8] at hA hval hsz
  obtain ⟨v0, vs0, d0, ds0, p0, q0, hargs, rfl, rfl, h0, r0⟩ := trodAll_cons hA
  obtain ⟨v1, vs1, d1, ds1, p1, q1, rfl, rfl, rfl, h1, r1⟩ := trodAll_cons r0
  obtain ⟨rfl, rfl, rfl⟩ := trodAll_nil r1
  obtain rfl : args = #[v0, v1] := by cases args; simp_all
  obtain ⟨rfl, rfl⟩ := trodVars_none hV
  have k0 := h0
  have lt0 : ∀ x ∈ p0, x.block < W.heap.size := by obtain ⟨m, hm⟩ := k0; exact DataW.trod_lt m _ _ _ hm
  obtain ⟨ls, hls, hln⟩ : ∃ ls, Strs W v0 ls ∧ (ls = [] ∨ ∃ el sp, d0 = .slice el sp ∧ el.length = ls.length) := by
    obtain ⟨a0, len0, cap0, rfl⟩ := okWide_slice Try.underlying54 (hval 0 54 v0 rfl rfl)
    obtain ⟨fuel, hf⟩ := h0
    exact openStrsL (x := (d0, p0)) hf
  have hn : ls.length ≤ 8796093022208 := by
    rcases hln with rfl | ⟨el, sp, rfl, hel⟩
    · simp
    · have hw := sized_slice hsz (j := 0) (t := 54) rfl rfl Try.underlying54
      have hb : Try.prog.bytesOf 9 = 16 := by kernel_rfl
      rw [hb] at hw
      simp only [reachBytes] at hw
      omega
  obtain ⟨a1, rfl, rfl, rfl, w1⟩ := open_string Try.underlying9 (hval 1 9 v1 rfl rfl) h1
  have hlen1 := sized_string hsz (j := 1) (t := 9) rfl rfl
  simp only [reachBytes] at hlen1
  clear hA0 hval0
  have hwk := walk v0 ls a1.data.toList W hls hn (by omega)
  rw [S_of] at hwk
  refine hwk.mono fun e W' ⟨he, bel⟩ => ?_
  subst he
  exact ⟨_, rfl, _, _, _, [], _, [], hW', trodAll_mk1 (shut_bool Try.underlying4 _), (trodAll_cons_mk (Below.trod laidOut (by kernel_rfl) (of_decide_eq_true (by kernel_rfl)) k0 bel lt0) (trodAll_cons_mk (shut_string Try.underlying9 w1) trodAll_mk0)), rfl, bel.frame _, fun h => by cases h⟩

theorem proved : Rows.FrameJoinsSaid :=
  OpenClaim.holds_of_wide 8 Try.f8 rfl rfl rfl rfl rfl rfl rfl ⟨rfl, rfl, rfl, rfl, rfl⟩ rfl rfl rfl rfl rfl (by kernel_rfl) Try.func8 (by kernel_rfl)
    (of_decide_eq_true (by kernel_rfl)) (by unfold Func.isWrapper; first | (rw [if_pos (by decide +kernel)]; kernel_rfl) | (rw [if_neg (by decide +kernel)]; exact ⟨rfl, rfl⟩))
    (fun os started H enc _ => lifted os started H enc)
end Go.Proofs.Ytbnfmaooailfeaa.frameJoins

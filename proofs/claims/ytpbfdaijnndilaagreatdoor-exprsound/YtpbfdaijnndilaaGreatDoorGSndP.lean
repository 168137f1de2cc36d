/-
  What is found right has a value of that kind, plain.
-/
import Derived.Test.YtpbfdaijnndilaaGreatDoorGChkC
namespace Go.Proofs.YtpbfdaijnndilaaGreatDoor.x10
open Go.RowKit Go.Shelf Go.Sort
open Go.Lib hiding intOf

theorem may_kind {v : V9} (h : mayV v = true) : (v.1 = 1 ∧ v.2.2 = []) ∨ (v.1 = 2 ∧ v.2.2 = []) ∨ (v.1 = 3 ∧ v.2.1 = 0 ∧ v.2.2.length ≤ 1024) := by
  unfold mayV at h
  split at h
  · rename_i h3
    exact .inr (.inr ⟨h3, of_decide_eq_true h⟩)
  · obtain ⟨h1, h2 | ⟨h2, -⟩⟩ := of_decide_eq_true h
    · exact .inl ⟨h2, h1⟩
    · exact .inr (.inl ⟨h2, h1⟩)
theorem nm_may (n : Int) : mayV (nm n) = true := by unfold mayV nm; simp
theorem tr_may (b : Bool) : mayV (tr b) = true := by cases b <;> decide
theorem tr_kind (b : Bool) : (tr b).1 = 2 := rfl
theorem nm_kind (n : Int) : (nm n).1 = 1 := rfl
/-- how a value that is found right comes out -/
def Snd (k : Int) (r : Ot V9) : Prop := match r with
  | .ok v => mayV v = true ∧ v.1 = k
  | .no e _ => e = 11 ∨ e = 13
  | .out => False
theorem opV_snd {op : Int} {a b : V9} (ha : mayV a = true) (hb : mayV b = true ∨ b = v0) (hop : 3 ≤ op ∧ op ≤ 18) (hk : kof op a.1 b.1 ≠ 0) : Snd (kof op a.1 b.1) (opV op a b) := by
  rcases (by omega : op = 3 ∨ op = 4 ∨ op = 5 ∨ op = 6 ∨ op = 7 ∨ op = 8 ∨ op = 9 ∨ op = 10 ∨ op = 11 ∨ op = 12 ∨ op = 13 ∨ op = 14 ∨ op = 15 ∨ op = 16 ∨ op = 17 ∨ op = 18) with rfl | rfl | rfl | rfl | rfl | rfl | rfl | rfl | rfl | rfl | rfl | rfl | rfl | rfl | rfl | rfl
  · rw [show kof 3 a.1 b.1 = if a.1 = 1 then 1 else 0 from rfl] at hk ⊢
    by_cases hc : a.1 = 1
    · rw [if_pos hc] at hk ⊢
      show Snd 1 (.ok (nm (RowKit.wrap64 (-a.2.1))))
      exact ⟨nm_may _, rfl⟩
    · rw [if_neg hc] at hk
      exact absurd rfl hk
  · rw [show kof 4 a.1 b.1 = if a.1 = 2 then 2 else 0 from rfl] at hk ⊢
    by_cases hc : a.1 = 2
    · rw [if_pos hc] at hk ⊢
      show Snd 2 (.ok (tr (decide (a.2.1 = 0))))
      exact ⟨tr_may _, rfl⟩
    · rw [if_neg hc] at hk
      exact absurd rfl hk
  · rw [show kof 5 a.1 b.1 = if a.1 = 3 then 1 else 0 from rfl] at hk ⊢
    by_cases hc : a.1 = 3
    · rw [if_pos hc] at hk ⊢
      show Snd 1 (.ok (nm (a.2.2.length : Int)))
      exact ⟨nm_may _, rfl⟩
    · rw [if_neg hc] at hk
      exact absurd rfl hk
  · rw [show kof 6 a.1 b.1 = if a.1 = 1 ∧ b.1 = 1 then 1 else 0 from rfl] at hk ⊢
    by_cases hc : a.1 = 1 ∧ b.1 = 1
    · rw [if_pos hc] at hk ⊢
      show Snd 1 (.ok (nm (RowKit.wrap64 (a.2.1 * b.2.1))))
      exact ⟨nm_may _, rfl⟩
    · rw [if_neg hc] at hk
      exact absurd rfl hk
  · rw [show kof 7 a.1 b.1 = if a.1 = 1 ∧ b.1 = 1 then 1 else 0 from rfl] at hk ⊢
    by_cases hc : a.1 = 1 ∧ b.1 = 1
    · rw [if_pos hc] at hk ⊢
      show Snd 1 (if b.2.1 = 0 then .no 11 0 else .ok (nm (RowKit.wrap64 (a.2.1.tdiv b.2.1))))
      split
      · exact .inl rfl
      · exact ⟨nm_may _, rfl⟩
    · rw [if_neg hc] at hk
      exact absurd rfl hk
  · rw [show kof 8 a.1 b.1 = if a.1 = 1 ∧ b.1 = 1 then 1 else 0 from rfl] at hk ⊢
    by_cases hc : a.1 = 1 ∧ b.1 = 1
    · rw [if_pos hc] at hk ⊢
      show Snd 1 (if b.2.1 = 0 then .no 11 0 else .ok (nm (a.2.1.tmod b.2.1)))
      split
      · exact .inl rfl
      · exact ⟨nm_may _, rfl⟩
    · rw [if_neg hc] at hk
      exact absurd rfl hk
  · rw [show kof 9 a.1 b.1 = if a.1 = b.1 ∧ a.1 ≠ 2 then a.1 else 0 from rfl] at hk ⊢
    by_cases hc : a.1 = b.1 ∧ a.1 ≠ 2
    · rw [if_pos hc] at hk ⊢
      show Snd a.1 (sumV a b)
      obtain ⟨h1, h2⟩ := hc
      unfold sumV
      rcases may_kind ha with ⟨h4, -⟩ | ⟨h4, -⟩ | ⟨h4, h5, h6⟩
      · rw [if_pos h4, h4]
        exact ⟨nm_may _, rfl⟩
      · exact absurd h4 h2
      · rw [if_neg (by omega)]
        split
        · exact .inr rfl
        · rename_i h7
          rw [h4]
          refine ⟨?_, rfl⟩
          unfold mayV
          rw [if_pos rfl]
          exact decide_eq_true ⟨rfl, by rw [List.length_append]; omega⟩
    · rw [if_neg hc] at hk
      exact absurd rfl hk
  · rw [show kof 10 a.1 b.1 = if a.1 = 1 ∧ b.1 = 1 then 1 else 0 from rfl] at hk ⊢
    by_cases hc : a.1 = 1 ∧ b.1 = 1
    · rw [if_pos hc] at hk ⊢
      show Snd 1 (.ok (nm (RowKit.wrap64 (a.2.1 - b.2.1))))
      exact ⟨nm_may _, rfl⟩
    · rw [if_neg hc] at hk
      exact absurd rfl hk
  · rw [show kof 11 a.1 b.1 = if a.1 = b.1 then 2 else 0 from rfl] at hk ⊢
    by_cases hc : a.1 = b.1
    · rw [if_pos hc] at hk ⊢
      show Snd 2 (.ok (tr (decide (a = b))))
      exact ⟨tr_may _, rfl⟩
    · rw [if_neg hc] at hk
      exact absurd rfl hk
  · rw [show kof 12 a.1 b.1 = if a.1 = b.1 then 2 else 0 from rfl] at hk ⊢
    by_cases hc : a.1 = b.1
    · rw [if_pos hc] at hk ⊢
      show Snd 2 (.ok (tr (decide (a ≠ b))))
      exact ⟨tr_may _, rfl⟩
    · rw [if_neg hc] at hk
      exact absurd rfl hk
  · rw [show kof 13 a.1 b.1 = if a.1 = b.1 ∧ a.1 ≠ 2 then 2 else 0 from rfl] at hk ⊢
    by_cases hc : a.1 = b.1 ∧ a.1 ≠ 2
    · rw [if_pos hc] at hk ⊢
      show Snd 2 (.ok (tr (lesV a b)))
      exact ⟨tr_may _, rfl⟩
    · rw [if_neg hc] at hk
      exact absurd rfl hk
  · rw [show kof 14 a.1 b.1 = if a.1 = b.1 ∧ a.1 ≠ 2 then 2 else 0 from rfl] at hk ⊢
    by_cases hc : a.1 = b.1 ∧ a.1 ≠ 2
    · rw [if_pos hc] at hk ⊢
      show Snd 2 (.ok (tr (!lesV b a)))
      exact ⟨tr_may _, rfl⟩
    · rw [if_neg hc] at hk
      exact absurd rfl hk
  · rw [show kof 15 a.1 b.1 = if a.1 = b.1 ∧ a.1 ≠ 2 then 2 else 0 from rfl] at hk ⊢
    by_cases hc : a.1 = b.1 ∧ a.1 ≠ 2
    · rw [if_pos hc] at hk ⊢
      show Snd 2 (.ok (tr (lesV b a)))
      exact ⟨tr_may _, rfl⟩
    · rw [if_neg hc] at hk
      exact absurd rfl hk
  · rw [show kof 16 a.1 b.1 = if a.1 = b.1 ∧ a.1 ≠ 2 then 2 else 0 from rfl] at hk ⊢
    by_cases hc : a.1 = b.1 ∧ a.1 ≠ 2
    · rw [if_pos hc] at hk ⊢
      show Snd 2 (.ok (tr (!lesV a b)))
      exact ⟨tr_may _, rfl⟩
    · rw [if_neg hc] at hk
      exact absurd rfl hk
  · rw [show kof 17 a.1 b.1 = if a.1 = 2 ∧ b.1 = 2 then 2 else 0 from rfl] at hk ⊢
    by_cases hc : a.1 = 2 ∧ b.1 = 2
    · rw [if_pos hc] at hk ⊢
      show Snd 2 (.ok b)
      rcases hb with hb | hb
      · exact ⟨hb, hc.2⟩
      · rw [hb] at hc
        exact absurd hc.2 (by decide)
    · rw [if_neg hc] at hk
      exact absurd rfl hk
  · rw [show kof 18 a.1 b.1 = if a.1 = 2 ∧ b.1 = 2 then 2 else 0 from rfl] at hk ⊢
    by_cases hc : a.1 = 2 ∧ b.1 = 2
    · rw [if_pos hc] at hk ⊢
      show Snd 2 (.ok b)
      rcases hb with hb | hb
      · exact ⟨hb, hc.2⟩
      · rw [hb] at hc
        exact absurd hc.2 (by decide)
    · rw [if_neg hc] at hk
      exact absurd rfl hk
theorem dcd_kind {op : Int} {a : V9} (h : dcd op a = true) : a.1 = 2 ∧ (op = 17 ∨ op = 18) := by
  unfold dcd at h
  rcases of_decide_eq_true h with ⟨h1, h2⟩ | ⟨h1, h2⟩
  · exact ⟨by rw [h2], .inl h1⟩
  · exact ⟨by rw [h2], .inr h1⟩
theorem kof_log {op a b : Int} (ho : op = 17 ∨ op = 18) (h : kof op a b ≠ 0) : kof op a b = 2 := by
  rcases ho with rfl | rfl
  · rw [show kof 17 a b = if a = 2 ∧ b = 2 then 2 else 0 from rfl] at h ⊢
    split at h
    · rename_i hc; rw [if_pos hc]
    · exact absurd rfl h
  · rw [show kof 18 a b = if a = 2 ∧ b = 2 then 2 else 0 from rfl] at h ⊢
    split at h
    · rename_i hc; rw [if_pos hc]
    · exact absurd rfl h
end Go.Proofs.YtpbfdaijnndilaaGreatDoor.x10
namespace Go.Proofs.YtpbfdaijnndilaaGreatDoor.x10
open Go.RowKit Go.Shelf Go.Sort
open Go.Lib hiding intOf

theorem ckl_spec {q : ByteArray → Option Int} : ∀ (t : List P10) (acc f : List Int), ckl q t acc = .ok f → (∃ r, f = acc ++ r ∧ r.length = t.length) ∧ ∀ (j : Nat) (hj : j < t.length), ckP q (acc.length + j) t[j] (gt (f.take (acc.length + j)) t[j].2.1) (gt (f.take (acc.length + j)) t[j].2.2.1) = .ok (f[acc.length + j]?.getD 0)
  | [], acc, f, h => by
    cases h
    exact ⟨⟨[], (List.append_nil _).symm, rfl⟩, fun j hj => absurd hj (Nat.not_lt_zero _)⟩
  | p :: t, acc, f, h => by
    cases hp : ckP q acc.length p (gt acc p.2.1) (gt acc p.2.2.1) with
    | no e a => rw [ckl_no hp] at h; cases h
    | out => exact absurd hp (ckP_out q _ _ _ _)
    | ok k =>
      rw [ckl_ok hp] at h
      obtain ⟨⟨r, hr, hl⟩, hs⟩ := ckl_spec t _ f h
      have hf : f = acc ++ (k :: r) := by rw [hr, List.append_assoc]; rfl
      refine ⟨⟨k :: r, hf, by simp [hl]⟩, fun j hj => ?_⟩
      cases j with
      | zero =>
        rw [Nat.add_zero, show (p :: t)[0] = p from rfl, hf, List.take_left, List.getElem?_append_right (Nat.le_refl _), Nat.sub_self]
        exact hp
      | succ j =>
        have h2 := hs j (by simpa using hj)
        rw [List.length_append, List.length_singleton, show acc.length + 1 + j = acc.length + (j + 1) by omega] at h2
        exact h2
theorem gt_take {f : List Int} {i a : Nat} (h : a < i) : gt (f.take i) (a : Int) = f[a]?.getD 0 := by
  unfold gt
  rw [if_pos (by omega), Int.toNat_natCast, List.getElem?_take, if_pos h]
theorem Snd.ok {k : Int} {v : V9} (h1 : mayV v = true) (h2 : v.1 = k) : Snd k (.ok v) := ⟨h1, h2⟩
theorem rk_snd {l : List P10} {vs : List Vr} {q : ByteArray → Option Int} {f : List Int} (hw : ∀ (i : Nat) (hi : i < l.length), Wg i l[i]) (hop : ∀ (i : Nat) (hi : i < l.length), 1 ≤ l[i].1 ∧ l[i].1 ≤ 18) (hf : ckl q l [] = .ok f) (hq : ∀ s k, q (S s) = some k → (getV vs (S s)).2 = true ∧ mayV (getV vs (S s)).1 = true ∧ (getV vs (S s)).1.1 = k) : ∀ (n i : Nat), i < n → i < l.length → Snd (f[i]?.getD 0) (rk l vs n i)
  | 0, _, h, _ => absurd h (Nat.not_lt_zero _)
  | n + 1, i, hn, hi => by
    have IH := rk_snd hw hop hf hq n
    have hc := (ckl_spec l [] f hf).2 i hi
    rw [List.length_nil, Nat.zero_add] at hc
    have hwi := hw i hi
    have ho := hop i hi
    rw [rk_succ hi]
    generalize l[i] = p at *
    unfold ckP at hc
    by_cases h1 : p.1 = 1
    · rw [if_pos h1] at hc ⊢
      have hv := hwi.v
      unfold hol at hv
      rw [if_pos h1, Bool.and_eq_true] at hv
      injection hc with hc
      exact Snd.ok hv.1 hc
    · rw [if_neg h1] at hc ⊢
      by_cases h2 : p.1 = 2
      · rw [if_pos h2] at hc ⊢
        cases hs : q (S p.2.2.2.2.2) with
        | none => rw [hs] at hc; cases hc
        | some k =>
          rw [hs] at hc
          injection hc with hc
          obtain ⟨g1, g2, g3⟩ := hq _ _ hs
          unfold varR
          rw [if_pos g1]
          exact Snd.ok g2 (g3.trans hc)
      · rw [if_neg h2] at hc ⊢
        by_cases h0 : kof p.1 (gt (f.take i) p.2.1) (gt (f.take i) p.2.2.1) = 0
        · rw [if_pos h0] at hc; cases hc
        · rw [if_neg h0] at hc
          injection hc with hc
          have ho3 : 3 ≤ p.1 ∧ p.1 ≤ 18 := ⟨by omega, ho.2⟩
          have hA : ∃ a : Nat, a < i ∧ p.2.1 = (a : Int) := by
            rcases hnd_cases ho with ⟨q1, q2⟩ | ⟨q1, -⟩ | ⟨q1, -⟩
            · omega
            · exact (hwi.o q1).1
            · exact (hwi.t q1).1
          obtain ⟨a, hai, ea⟩ := hA
          rw [ea, gt_take hai] at h0 hc
          rw [ea, Int.toNat_natCast]
          have HA := IH a (by omega) (by omega)
          cases hra : rk l vs n a with
          | out => rw [hra] at HA; exact HA.elim
          | no e x => rw [hra] at HA; exact HA
          | ok va =>
            rw [hra] at HA
            obtain ⟨ma, ka⟩ : mayV va = true ∧ va.1 = f[a]?.getD 0 := HA
            show Snd _ (if dcd p.1 va = true then .ok va else _)
            by_cases hd : dcd p.1 va = true
            · rw [if_pos hd]
              obtain ⟨d1, d2⟩ := dcd_kind hd
              exact Snd.ok ma (by rw [d1, ← hc, kof_log d2 h0])
            · rw [if_neg hd]
              have fin : ∀ vb : V9, (mayV vb = true ∨ vb = v0) → vb.1 = gt (f.take i) p.2.2.1 → Snd (f[i]?.getD 0) (if kof p.1 va.1 vb.1 = 0 then .no 9 0 else opV p.1 va vb) := fun vb mb kb => by
                rw [← ka, ← kb] at h0 hc
                rw [if_neg h0, ← hc]
                exact opV_snd ma mb ho3 h0
              by_cases hB : 0 ≤ p.2.2.1
              · rw [if_pos hB]
                have hB2 : ∃ b : Nat, b < i ∧ p.2.2.1 = (b : Int) := by
                  rcases hnd_cases ho with ⟨q1, q2⟩ | ⟨q1, -⟩ | ⟨q1, -⟩
                  · omega
                  · have := (hwi.o q1).2; omega
                  · exact (hwi.t q1).2
                obtain ⟨b, hbi, eb⟩ := hB2
                rw [eb, gt_take hbi] at fin
                rw [eb, Int.toNat_natCast]
                have HB := IH b (by omega) (by omega)
                cases hrb : rk l vs n b with
                | out => rw [hrb] at HB; exact HB.elim
                | no e x => rw [hrb] at HB; exact HB
                | ok vb => rw [hrb] at HB; exact fin vb (.inl HB.1) HB.2
              · rw [if_neg hB]
                refine fin v0 (.inr rfl) ?_
                unfold gt
                rw [if_neg hB]
                rfl
end Go.Proofs.YtpbfdaijnndilaaGreatDoor.x10
namespace Go.Proofs.YtpbfdaijnndilaaGreatDoor.x10
open Go.RowKit Go.Shelf Go.Sort
open Go.Lib hiding intOf

theorem getV_no : ∀ {vs : List Vr} {z : ByteArray}, (∀ y ∈ vs, y.1 ≠ z) → (getV vs z).2 = false
  | [], _, _ => rfl
  | x :: t, z, h => by
    unfold getV
    rw [if_neg (h x (List.mem_cons_self ..))]
    exact getV_no (fun y hy => h y (List.mem_cons_of_mem _ hy))
theorem getV_may : ∀ {vs : List Vr} {z : ByteArray}, (∀ y ∈ vs, okV y = true) → (getV vs z).2 = true → mayV (getV vs z).1 = true
  | [], _, _, h => by cases h
  | x :: t, z, h, h2 => by
    unfold getV at h2 ⊢
    split
    · have h3 := h x (List.mem_cons_self ..)
      unfold okV at h3
      rw [Bool.and_eq_true] at h3
      exact h3.2
    · rename_i h3
      rw [if_neg h3] at h2
      exact getV_may (fun y hy => h y (List.mem_cons_of_mem _ hy)) h2
/-- the declarations of variables -/
def dls (vs : List Vr) : List D10 := vs.map fun x => (x.1, x.2.1)
theorem dcl_of : ∀ (vs : List Vr) (q0 : ByteArray → Option Int), Rise vs → (∀ x ∈ vs, okV x = true) → (∀ x ∈ vs, q0 x.1 = none) → ∃ q, dcl (dls vs) q0 = some q ∧ ∀ z, q z = if (getV vs z).2 = true then some (getV vs z).1.1 else q0 z
  | [], q0, _, _, _ => ⟨q0, rfl, fun z => rfl⟩
  | x :: t, q0, hr, ho, hq => by
    have hx := ho x (List.mem_cons_self ..)
    unfold okV at hx
    rw [Bool.and_eq_true] at hx
    have hne : ∀ y ∈ t, y.1 ≠ x.1 := fun y hy e => by
      have h1 : lt x.1 y.1 = true := (List.pairwise_cons.1 hr).1 y hy
      rw [e, lt_irrefl] at h1
      cases h1
    obtain ⟨q, h1, h2⟩ := dcl_of t (fun z => if x.1 = z then some x.2.1 else q0 z) hr.tail (fun y hy => ho y (List.mem_cons_of_mem _ hy)) (fun y hy => by
      show (if x.1 = y.1 then some x.2.1 else q0 y.1) = none
      rw [if_neg (fun e => hne y hy e.symm)]
      exact hq y (List.mem_cons_of_mem _ hy))
    refine ⟨q, ?_, fun z => ?_⟩
    · show dcl ((x.1, x.2.1) :: dls t) q0 = some q
      rw [dcl_cons, if_neg ?_]
      · exact h1
      · rintro (h | h | h | h)
        · rw [hx.1] at h; cases h
        · rw [hq x (List.mem_cons_self ..)] at h; cases h
        · rcases may_kind hx.2 with ⟨h5, -⟩ | ⟨h5, -⟩ | ⟨h5, -⟩ <;> (rw [h5] at h; omega)
        · rcases may_kind hx.2 with ⟨h5, -⟩ | ⟨h5, -⟩ | ⟨h5, -⟩ <;> (rw [h5] at h; omega)
    · rw [h2 z, show getV (x :: t) z = if x.1 = z then (x.2, true) else getV t z from rfl]
      by_cases e : x.1 = z
      · rw [if_pos e, getV_no (fun y hy e2 => hne y hy (e2.trans e.symm))]
        simp [e]
      · rw [if_neg e, if_neg e]
theorem ckl_at {q : ByteArray → Option Int} : ∀ {t : List P10} {acc : List Int} {e a : Int}, ckl q t acc = .no e a → (acc.length : Int) ≤ a ∧ a < (acc.length : Int) + t.length
  | [], _, _, _, h => by cases h
  | p :: t, acc, e, a, h => by
    cases hp : ckP q acc.length p (gt acc p.2.1) (gt acc p.2.2.1) with
    | ok k =>
      rw [ckl_ok hp] at h
      have := ckl_at h
      rw [List.length_append, List.length_singleton] at this
      rw [List.length_cons]
      omega
    | out => exact absurd hp (ckP_out q _ _ _ _)
    | no e' a' =>
      rw [ckl_no hp] at h
      injection h with h1 h2
      have h3 : a' = (acc.length : Int) := by
        unfold ckP at hp
        split at hp
        · cases hp
        · split at hp
          · split at hp
            · cases hp
            · injection hp with _ h4; exact h4.symm
          · split at hp
            · injection hp with _ h4; exact h4.symm
            · cases hp
      rw [List.length_cons]
      omega
theorem check_snd {l : List P10} {vs : List Vr} (hm : mayE l = true) (hr : rgt vs = true) : ((chkE l (dls vs)).2.1 = 0 ∧ Snd (chkE l (dls vs)).1 (rk l vs l.length (l.length - 1))) ∨ (((chkE l (dls vs)).2.1 = 15 ∨ (chkE l (dls vs)).2.1 = 9) ∧ 0 ≤ (chkE l (dls vs)).2.2 ∧ (chkE l (dls vs)).2.2 < l.length) := by
  obtain ⟨-, hri, hok⟩ := rgt_iff.1 hr
  obtain ⟨q, hd, hq⟩ := dcl_of vs (fun _ => none) hri hok (fun _ _ => rfl)
  have hsh : shp l = true := by unfold mayE at hm; rw [Bool.and_eq_true] at hm; exact hm.1
  obtain ⟨-, h1, hw⟩ := shp_wg hsh
  have hc : chkE l (dls vs) = kdO (ckT (ckl q l []) l.length) := by unfold chkE; rw [if_pos hm, hd]
  rw [hc]
  cases hk : ckl q l [] with
  | out => exact absurd hk (ckl_out q _ _)
  | no e a =>
    have := ckl_at hk
    rw [List.length_nil] at this
    exact .inr ⟨ckl_err hk, by show (0 : Int) ≤ a; omega, by show a < _; omega⟩
  | ok f =>
    refine .inl ⟨rfl, ?_⟩
    exact rk_snd hw (fun i hi => (shp_wf hsh hi).op) hk (fun s k hs => by
      rw [hq] at hs
      cases hg : (getV vs (S s)).2 with
      | false => rw [hg] at hs; simp at hs
      | true =>
        rw [hg] at hs
        simp at hs
        exact ⟨rfl, getV_may hok hg, hs⟩) l.length (l.length - 1) (by omega) (by omega)
end Go.Proofs.YtpbfdaijnndilaaGreatDoor.x10

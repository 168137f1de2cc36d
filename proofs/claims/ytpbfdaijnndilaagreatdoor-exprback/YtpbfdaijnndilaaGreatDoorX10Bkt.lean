/-
  What a text is read as, with something ahead of it and behind it, as a plain fact.
-/
import Derived.Test.YtpbfdaijnndilaaGreatDoorGBndP
namespace Go.Proofs.YtpbfdaijnndilaaGreatDoor.x10
open Go.RowKit Go.Shelf Go.Sort
open Go.Lib hiding intOf

theorem takeWhile_end {p : UInt8 → Bool} {c : UInt8} {q : List UInt8} (hc : p c = false) : ∀ l : List UInt8, (l ++ c :: q).takeWhile p = l.takeWhile p
  | [] => by rw [List.nil_append, List.takeWhile_cons, hc]; rfl
  | x :: t => by
    rw [List.cons_append, List.takeWhile_cons, List.takeWhile_cons, takeWhile_end hc t]
theorem rdB1_app {l q : List UInt8} (h : (rdB1 l).2 ≠ 0) : rdB1 (l ++ q) = rdB1 l := by
  unfold rdB1 at h ⊢
  split at h
  · rfl
  · rfl
  · rfl
  · rename_i c t h1 h2 h3
    rw [List.cons_append]
    by_cases hc : c = 92
    · subst hc
      simp at h
    · split
      · rename_i e; injection e with e1 e2; exact absurd e1 hc
      · rename_i e; injection e with e1 e2; exact absurd e1 hc
      · rename_i e; injection e with e1 e2; exact absurd e1 hc
      · rename_i c' t' _ _ _ e
        cases e
        rfl
      · rename_i e; cases e
  · exact absurd rfl h
theorem txs_more {a q : List UInt8} (p : List UInt8) : ∀ (n : Nat) (acc l : List UInt8), txs n acc l = (a, 34 :: q) → ∀ m, n ≤ m → txs m acc (l ++ p) = (a, 34 :: (q ++ p))
  | 0, acc, l, h, m, _ => by
    have h' : (acc, l) = (a, 34 :: q) := h
    cases h'
    cases m with
    | zero => rfl
    | succ m => rfl
  | n + 1, acc, l, h, m, hm => by
    obtain ⟨m, rfl⟩ : ∃ k, m = k + 1 := ⟨m - 1, by omega⟩
    unfold txs at h ⊢
    by_cases h0 : (rdB1 l).2 = 0
    · rw [if_pos h0] at h
      cases h
      rfl
    · rw [if_neg h0] at h
      rw [rdB1_app h0, if_neg h0, List.drop_append_of_le_length (rdB1_le l)]
      exact txs_more p n _ _ h m (by omega)
theorem pre_one {a c : UInt8} {l : List UInt8} : ([a] : List UInt8).isPrefixOf (c :: l) = (a == c) := by simp [List.isPrefixOf]
theorem pre_two {a b c d : UInt8} {l : List UInt8} : ([a, b] : List UInt8).isPrefixOf (c :: d :: l) = (a == c && b == d) := by simp [List.isPrefixOf]
theorem pre_two1 {a b c : UInt8} : ([a, b] : List UInt8).isPrefixOf [c] = false := by simp [List.isPrefixOf]
theorem mkOf_app {c z : UInt8} {r q : List UInt8} (hz : z = 32 ∨ z = 10) : mkOf (c :: r ++ z :: q) = mkOf (c :: r) := by
  unfold mkOf
  cases r with
  | cons d r =>
    simp only [List.cons_append, mks, List.find?_cons, pre_one, pre_two, List.find?_nil]
  | nil =>
    have z1 : ((61 : UInt8) == z) = false := by rcases hz with rfl | rfl <;> rfl
    simp only [List.cons_append, List.nil_append, mks, List.find?_cons, pre_one, pre_two, pre_two1, z1, Bool.and_false, List.find?_nil]
/-- a token stays as it is where a blank stands behind the text -/
theorem tok_app {b k : Nat} {c z : UInt8} {r q : List UInt8} {t : Tk} {n : Nat} (hz : z = 32 ∨ z = 10) (h : tok b (c :: r) = .ok (t, n)) : tok (b + k) (c :: r ++ z :: q) = .ok ({ t with at' := t.at' + k }, n) ∧ t.kind ≠ 0 ∧ t.at' = b := by
  have zD : kD z = false := by rcases hz with rfl | rfl <;> rfl
  have zW : kW z = false := by rcases hz with rfl | rfl <;> rfl
  have e1 := takeWhile_end (q := q) zD (c :: r)
  have e2 := takeWhile_end (q := q) zW (c :: r)
  have e3 := mkOf_app (c := c) (r := r) (q := q) hz
  rw [List.cons_append] at e1 e2 e3 ⊢
  unfold tok at h ⊢
  simp only at h ⊢
  by_cases h1 : kD c = true
  · rw [if_pos h1] at h ⊢
    rw [e1]
    split at h
    · rename_i hc
      rw [if_pos hc]
      cases h
      exact ⟨rfl, by simp, rfl⟩
    · cases h
  · rw [if_neg h1] at h ⊢
    by_cases h2 : kA c = true
    · rw [if_pos h2] at h ⊢
      rw [e2]
      split at h
      · rename_i hc
        rw [if_pos hc]
        cases h
        exact ⟨rfl, by simp, rfl⟩
      · cases h
    · rw [if_neg h2] at h ⊢
      by_cases h3 : c = 34
      · rw [if_pos h3] at h ⊢
        obtain ⟨ta, tb⟩ : (List UInt8) × (List UInt8) := txs (c :: r).length [] (List.drop 1 (c :: r))
        cases hx : txs (c :: r).length [] (List.drop 1 (c :: r)) with
        | mk xa xb =>
          rw [hx] at h
          simp only at h
          split at h
          · rename_i q'
            have hm := txs_more (z :: q) (c :: r).length [] (List.drop 1 (c :: r)) hx (c :: (r ++ z :: q)).length (by simp)
            have hd : List.drop 1 (c :: r) ++ z :: q = List.drop 1 (c :: (r ++ z :: q)) := rfl
            rw [hd] at hm
            rw [hm]
            simp only
            cases h
            refine ⟨?_, by simp, rfl⟩
            simp only [List.length_cons, List.length_append]
            congr 2
            omega
          · cases h
      · rw [if_neg h3] at h ⊢
        rw [e3]
        split at h
        · rename_i m hm
          cases h
          exact ⟨rfl, by simp, rfl⟩
        · cases h
theorem spn_in {l q : List UInt8} {z : UInt8} (h : spn kB l < l.length) : spn kB (l ++ z :: q) = spn kB l := by
  induction l with
  | nil => simp at h
  | cons c t ih =>
    unfold spn at h ih ⊢
    rw [List.cons_append]
    cases hc : kB c with
    | false => rw [List.takeWhile_cons_of_neg (by simp [hc]), List.takeWhile_cons_of_neg (by simp [hc])]
    | true =>
      rw [List.takeWhile_cons_of_pos hc] at h ⊢
      rw [List.takeWhile_cons_of_pos hc, List.length_cons, List.length_cons, ih (by simpa using h)]
theorem spn_out {l q : List UInt8} (h : spn kB l = l.length) : spn kB (l ++ q) = l.length + spn kB q := by
  induction l with
  | nil => simp
  | cons c t ih =>
    unfold spn at h ih ⊢
    rw [List.cons_append]
    cases hc : kB c with
    | false => rw [List.takeWhile_cons_of_neg (by simp [hc])] at h; simp at h
    | true =>
      rw [List.takeWhile_cons_of_pos hc] at h ⊢
      rw [List.length_cons, ih (by simpa using h), List.length_cons]
      omega
theorem spn_drop {l : List UInt8} (h : spn kB l < l.length) : ∃ c r, l.drop (spn kB l) = c :: r := by
  cases e : l.drop (spn kB l) with
  | nil =>
    have := congrArg List.length e
    rw [List.length_drop, List.length_nil] at this
    omega
  | cons c r => exact ⟨c, r, rfl⟩
/-- two readers, the one within a longer text: j operands deeper, k bytes on; behind the text the longer one has the token e -/
structure Rl (s : List UInt8) (m k j : Nat) (e : Tk) (st st2 : Rs) : Prop where
  p : st2.parts = st.parts
  n : st2.nest = st.nest + j
  c : (st.now.kind ≠ 0 ∧ st2.now = { st.now with at' := st.now.at' + k } ∧ st2.beh = st.beh + k ∧ st.beh ≤ s.length) ∨ (st.now.kind = 0 ∧ st.now.s = [] ∧ st2.now = e ∧ st2.beh = m)
/-- the longer one reads as the other one, or nests too deep -/
def Sim (s : List UInt8) (m k j : Nat) (e : Tk) (x y : Ot Rs) : Prop := ∀ st', x = .ok st' → (∃ st2', y = .ok st2' ∧ Rl s m k j e st' st2') ∨ (0 < j ∧ ∃ a, y = .no 13 a)
variable {s pre : List UInt8} {z : UInt8} {q : List UInt8} {m k j : Nat} {e : Tk}
theorem Sim.bind {x y : Ot Rs} {f f2 : Rs → Ot Rs} (h : Sim s m k j e x y) (hf : ∀ st st2, x = .ok st → Rl s m k j e st st2 → Sim s m k j e (f st) (f2 st2)) : Sim s m k j e (x.bind f) (y.bind f2) := by
  intro st' h'
  obtain ⟨a, h1, h2⟩ := bind_ok h'
  rcases h a h1 with ⟨a2, e1, hr⟩ | ⟨hj, b, e1⟩
  · rw [e1]
    exact hf a a2 h1 hr st' h2
  · rw [e1]
    exact .inr ⟨hj, b, rfl⟩
theorem Sim.no (x : Ot Rs) (er a : Int) : Sim s m k j e (.no er a) x := fun _ h => by cases h
theorem Sim.ok {st st2 : Rs} (h : Rl s m k j e st st2) : Sim s m k j e (.ok st) (.ok st2) := fun st' h' => by cases h'; exact .inl ⟨st2, rfl, h⟩
theorem Sim.ite {c : Prop} [Decidable c] {x y x2 y2 : Ot Rs} (h : c → Sim s m k j e x x2) (h2 : ¬ c → Sim s m k j e y y2) : Sim s m k j e (if c then x else y) (if c then x2 else y2) := by
  by_cases hc : c
  · rw [if_pos hc, if_pos hc]; exact h hc
  · rw [if_neg hc, if_neg hc]; exact h2 hc
/-- what stands behind the text: the token that the longer text has there -/
structure Beh (z : UInt8) (q : List UInt8) (m k : Nat) (s : List UInt8) (e : Tk) : Prop where
  zz : z = 32 ∨ z = 10
  t : ∃ b n, tok b ((z :: q).drop (spn kB (z :: q))) = .ok (e, n) ∧ b = k + s.length + spn kB (z :: q) ∧ b + n = m
/-- the next token, from the same place on -/
theorem nxt_at {b : Nat} {st st2 : Rs} (hb : Beh z q m pre.length s e) (hpre : pre.length = k) (hs : b ≤ s.length) (hsb : st.beh = b) (hp : st2.parts = st.parts) (hn : st2.nest = st.nest + j) (h2 : ∃ d, st2.beh + d = k + b ∧ ∃ u : List UInt8, (pre ++ s ++ z :: q).drop st2.beh = u ++ (s.drop b ++ z :: q) ∧ u.length = d ∧ ∀ c ∈ u, kB c = true) :
    Sim s m k j e (nxt s st) (nxt (pre ++ s ++ z :: q) st2) := by
  intro st' h
  obtain ⟨d, hd, u, hu, hul, hub⟩ := h2
  unfold nxt at h ⊢
  simp only at h ⊢
  rw [hsb] at h
  have hspn : ∀ l : List UInt8, spn kB (u ++ l) = d + spn kB l := by
    intro l
    subst hul
    clear hu hd
    induction u with
    | nil => simp
    | cons c t ih =>
      unfold spn at ih ⊢
      rw [List.cons_append, List.takeWhile_cons_of_pos (hub c List.mem_cons_self), List.length_cons, ih (fun x hx => hub x (List.mem_cons_of_mem _ hx)), List.length_cons]
      omega
  rw [hu, hspn]
  have hdr : ∀ n, (pre ++ s ++ z :: q).drop (st2.beh + (d + n)) = (s.drop b ++ z :: q).drop n := fun n => by
    rw [← List.drop_drop, hu, ← List.drop_drop, show d = u.length from hul.symm, List.drop_left]
  by_cases hin : spn kB (s.drop b) < (s.drop b).length
  · obtain ⟨c, r, hcr⟩ := spn_drop hin
    rw [spn_in hin, hdr, List.drop_append_of_le_length (by omega), hcr]
    rw [← List.drop_drop, hcr] at h
    split at h
    · rename_i t n ht
      obtain ⟨h1, h2, h3⟩ := tok_app (k := k) (q := q) hb.zz ht
      rw [show st2.beh + (d + spn kB (List.drop b s)) = b + spn kB (List.drop b s) + k by omega, h1]
      have hle := tok_le ht
      have hlen := congrArg List.length hcr
      rw [List.length_drop, List.length_drop] at hlen
      cases h
      exact .inl ⟨_, rfl, hp, hn, .inl ⟨h2, rfl, by simp only; omega, by simp only; rw [List.length_cons] at hle hlen; omega⟩⟩
    · cases h
    · cases h
  · have hall : spn kB (s.drop b) = (s.drop b).length := by have := spn_le' kB (s.drop b); omega
    have hl : (s.drop b).length = s.length - b := List.length_drop
    rw [spn_out hall, hdr, ← List.drop_drop, List.drop_left]
    rw [← List.drop_drop, hall, List.drop_length] at h
    simp only [tok] at h
    cases h
    obtain ⟨b', n, t1, t2, t3⟩ := hb.t
    rw [show st2.beh + (d + ((s.drop b).length + spn kB (z :: q))) = b' by omega, t1]
    exact .inl ⟨_, rfl, hp, hn, .inr ⟨rfl, rfl, rfl, t3⟩⟩
theorem nxt_sim {st st2 : Rs} (hb : Beh z q m pre.length s e) (hpre : pre.length = k) (h : Rl s m k j e st st2) (hk : st.now.kind ≠ 0) : Sim s m k j e (nxt s st) (nxt (pre ++ s ++ z :: q) st2) := by
  rcases h.c with ⟨-, -, h3, h4⟩ | ⟨h1, -⟩
  · refine nxt_at hb hpre h4 rfl h.p h.n ⟨0, by omega, [], ?_, rfl, fun c hc => by cases hc⟩
    rw [h3, List.nil_append, List.append_assoc, Nat.add_comm, ← List.drop_drop, show k = pre.length from hpre.symm, List.drop_left, List.drop_append_of_le_length h4]
  · exact absurd h1 hk
theorem put_sim {st st2 : Rs} (p : P10) (h : Rl s m k j e st st2) : Sim s m k j e (putP p st) (putP p st2) := by
  unfold putP
  rw [h.p]
  refine Sim.ite (fun _ => Sim.no _ _ _) (fun _ => Sim.ok ⟨rfl, h.n, ?_⟩)
  exact h.c
theorem Rl.las {st st2 : Rs} (h : Rl s m k j e st st2) : lasP st2 = lasP st := by unfold lasP; rw [h.p]
theorem Rl.now {st st2 : Rs} (h : Rl s m k j e st st2) (hk : st.now.kind ≠ 0) : st2.now.s = st.now.s ∧ st2.now.kind = st.now.kind ∧ st2.now.v = st.now.v := by
  rcases h.c with ⟨-, h2, -⟩ | ⟨h1, -⟩
  · rw [h2]; exact ⟨rfl, rfl, rfl⟩
  · exact absurd h1 hk
theorem must_sim {st st2 : Rs} {t : List UInt8} (ht : t ≠ []) (hb : Beh z q m pre.length s e) (hpre : pre.length = k) (h : Rl s m k j e st st2) : Sim s m k j e (must s t st) (must (pre ++ s ++ z :: q) t st2) := by
  by_cases hk : st.now.kind = 0
  · rcases h.c with ⟨h1, -⟩ | ⟨-, h2, -⟩
    · exact absurd hk h1
    · unfold must
      rw [h2, if_neg (fun e => ht e.symm)]
      exact Sim.no _ _ _
  · unfold must
    rw [(h.now hk).1]
    exact Sim.ite (fun _ => nxt_sim hb hpre h hk) (fun _ => Sim.no _ _ _)
theorem leaf_sim {st st2 : Rs} {op : Int} {v : V9} (hb : Beh z q m pre.length s e) (hpre : pre.length = k) (h : Rl s m k j e st st2) (hk : st.now.kind ≠ 0) : Sim s m k j e (leaf s op v st) (leaf (pre ++ s ++ z :: q) op v st2) :=
  (nxt_sim hb hpre h hk).bind fun _ _ _ h2 => put_sim _ h2
theorem twoH_end (he : e.s = [41] ∨ e.s = []) : twoH e.s = 0 := by rcases he with h | h <;> rw [h] <;> rfl
theorem nst_up {st st2 : Rs} (h : Rl s m k j e st st2) : Rl s m k j e { st with nest := st.nest + 1 } { st2 with nest := st2.nest + 1 } := ⟨h.p, by have := h.n; show st2.nest + 1 = st.nest + 1 + j; omega, h.c⟩
/-- as deep as that -/
def Kp (d : Nat) (x : Ot Rs) : Prop := ∀ st', x = .ok st' → st'.nest = d
theorem Kp.bind {d d2 : Nat} {x : Ot Rs} {f : Rs → Ot Rs} (h : Kp d x) (hf : ∀ st, st.nest = d → Kp d2 (f st)) : Kp d2 (x.bind f) := by
  intro st' h'
  obtain ⟨a, h1, h2⟩ := bind_ok h'
  exact hf a (h a h1) st' h2
theorem Kp.ite {d : Nat} {c : Prop} [Decidable c] {x y : Ot Rs} (h : Kp d x) (h2 : Kp d y) : Kp d (if c then x else y) := by
  by_cases hc : c
  · rw [if_pos hc]; exact h
  · rw [if_neg hc]; exact h2
theorem Kp.no (d : Nat) (er a : Int) : Kp d (.no er a) := fun _ h => by cases h
theorem Kp.ok {d : Nat} {st : Rs} (h : st.nest = d) : Kp d (.ok st) := fun _ h' => by cases h'; exact h
theorem nxt_kp {st : Rs} {d : Nat} (h : st.nest = d) : Kp d (nxt s st) := by
  intro st' h'
  unfold nxt at h'
  simp only at h'
  split at h'
  · cases h'; exact h
  · cases h'
  · cases h'
theorem put_kp {st : Rs} {d : Nat} (p : P10) (h : st.nest = d) : Kp d (putP p st) := Kp.ite (Kp.no _ _ _) (Kp.ok h)
theorem must_kp {st : Rs} {d : Nat} {t : List UInt8} (h : st.nest = d) : Kp d (must s t st) := Kp.ite (nxt_kp h) (Kp.no _ _ _)
theorem leaf_kp {st : Rs} {d : Nat} {op : Int} {v : V9} (h : st.nest = d) : Kp d (leaf s op v st) := (nxt_kp h).bind fun _ h2 => put_kp _ h2
theorem kp_all : ∀ n, (∀ lv st d, st.nest = d → Kp d (opds s n lv st)) ∧ (∀ lv a st d, st.nest = d → Kp d (more s n lv a st)) ∧ (∀ st d, st.nest = d → Kp d (opd s n st)) ∧ (∀ w st d, st.nest = d → Kp d (aftW s n w st)) ∧ (∀ w st d, st.nest = d → Kp d (aftM s n w st)) ∧ ∀ st d, st.nest = d → Kp d (inBr s n st) := by
  intro n
  induction n with
  | zero => exact ⟨fun _ _ _ _ _ h => (by cases h), fun _ _ _ _ _ _ h => (by cases h), fun _ _ _ _ h => (by cases h), fun _ _ _ _ _ h => (by cases h), fun _ _ _ _ _ h => (by cases h), fun _ _ _ _ h => (by cases h)⟩
  | succ n ih =>
    obtain ⟨i1, i2, i3, i4, i5, i6⟩ := ih
    refine ⟨fun lv st d h => ?_, fun lv a st d h => ?_, fun st d h => ?_, fun w st d h => ?_, fun w st d h => ?_, fun st d h => ?_⟩
    · rw [opds]
      exact (i3 st d h).bind fun _ h2 => i2 _ _ _ _ h2
    · rw [more]
      exact Kp.ite (Kp.ok h) ((nxt_kp h).bind fun _ h2 => (i1 _ _ _ h2).bind fun _ h3 => (put_kp _ h3).bind fun _ h4 => i2 _ _ _ _ h4)
    · rw [opd]
      refine Kp.ite (Kp.no _ _ _) (Kp.bind (d := d + 1) ?_ fun a h2 => Kp.ok (by show a.nest - 1 = d; omega))
      have h1 : ({ st with nest := st.nest + 1 } : Rs).nest = d + 1 := by show st.nest + 1 = d + 1; omega
      exact Kp.ite (leaf_kp h1) (Kp.ite (i4 _ _ _ h1) (Kp.ite (i5 _ _ _ h1) (Kp.no _ _ _)))
    · rw [aftW]
      exact Kp.ite (Kp.no _ _ _) (Kp.ite (leaf_kp h) (Kp.ite ((nxt_kp h).bind fun _ h2 => (i3 _ _ h2).bind fun _ h3 => put_kp _ h3) (Kp.ite ((nxt_kp h).bind fun _ h2 => (i6 _ _ h2).bind fun _ h3 => put_kp _ h3) (leaf_kp h))))
    · rw [aftM]
      exact Kp.ite (i6 _ _ h) (Kp.ite ((nxt_kp h).bind fun _ h2 => (i3 _ _ h2).bind fun _ h3 => put_kp _ h3) (Kp.no _ _ _))
    · rw [inBr]
      exact (must_kp h).bind fun _ h2 => (i1 _ _ _ h2).bind fun _ h3 => must_kp h3
theorem sim_all (hb : Beh z q m pre.length s e) (hpre : pre.length = k) (he : e.s = [41] ∨ e.s = []) : ∀ n,
    (∀ lv st st2, Rl s m k j e st st2 → Sim s m k j e (opds s n lv st) (opds (pre ++ s ++ z :: q) n lv st2)) ∧
    (∀ lv a st st2, Rl s m k j e st st2 → Sim s m k j e (more s n lv a st) (more (pre ++ s ++ z :: q) n lv a st2)) ∧
    (∀ st st2, Rl s m k j e st st2 → Sim s m k j e (opd s n st) (opd (pre ++ s ++ z :: q) n st2)) ∧
    (∀ w st st2, st.now.kind ≠ 0 → Rl s m k j e st st2 → Sim s m k j e (aftW s n w st) (aftW (pre ++ s ++ z :: q) n w st2)) ∧
    (∀ w st st2, st.now.kind ≠ 0 → Rl s m k j e st st2 → Sim s m k j e (aftM s n w st) (aftM (pre ++ s ++ z :: q) n w st2)) ∧
    (∀ st st2, Rl s m k j e st st2 → Sim s m k j e (inBr s n st) (inBr (pre ++ s ++ z :: q) n st2)) := by
  intro n
  induction n with
  | zero => exact ⟨fun _ _ _ _ _ h => (by cases h), fun _ _ _ _ _ _ h => (by cases h), fun _ _ _ _ h => (by cases h), fun _ _ _ _ _ _ h => (by cases h), fun _ _ _ _ _ _ h => (by cases h), fun _ _ _ _ h => (by cases h)⟩
  | succ n ih =>
    obtain ⟨i1, i2, i3, i4, i5, i6⟩ := ih
    refine ⟨fun lv st st2 h => ?_, fun lv a st st2 h => ?_, fun st st2 h => ?_, fun w st st2 hk h => ?_, fun w st st2 hk h => ?_, fun st st2 h => ?_⟩
    · rw [opds, opds]
      refine (i3 st st2 h).bind fun a a2 _ h2 => ?_
      rw [h2.las]
      exact i2 _ _ _ _ h2
    · rw [more, more]
      try simp only
      by_cases hk : st.now.kind = 0
      · rcases h.c with ⟨h1, -⟩ | ⟨-, h2, h3, -⟩
        · exact absurd hk h1
        · rw [h2, h3, twoH_end he, if_pos (.inl rfl), if_pos (.inl rfl)]
          exact Sim.ok h
      · rw [(h.now hk).1]
        refine Sim.ite (fun _ => Sim.ok h) (fun _ => ?_)
        refine (nxt_sim hb hpre h hk).bind fun a a2 _ h2 => (i1 _ _ _ h2).bind fun b b2 _ h3 => ?_
        rw [h3.las]
        refine (put_sim _ h3).bind fun c c2 _ h4 => ?_
        rw [h4.las]
        exact i2 _ _ _ _ h4
    · rw [opd, opd]
      simp only
      by_cases h20 : st.nest = 20
      · rw [if_pos h20]
        exact Sim.no _ _ _
      · rw [if_neg h20]
        by_cases h21 : st2.nest = 20
        · rw [if_pos h21]
          exact fun _ _ => .inr ⟨by have := h.n; omega, _, rfl⟩
        · rw [if_neg h21]
          have h1 : ({ st with nest := st.nest + 1 } : Rs).nest = st.nest + 1 := rfl
          have hkp : Kp (st.nest + 1) (if st.now.kind = 1 ∨ st.now.kind = 2 then leaf s 1 st.now.v { st with nest := st.nest + 1 } else if st.now.kind = 3 then aftW s n st.now.s { st with nest := st.nest + 1 } else if st.now.kind = 4 then aftM s n st.now.s { st with nest := st.nest + 1 } else .no 10 st.now.at') :=
            Kp.ite (leaf_kp h1) (Kp.ite ((kp_all n).2.2.2.1 _ _ _ h1) (Kp.ite ((kp_all n).2.2.2.2.1 _ _ _ h1) (Kp.no _ _ _)))
          refine Sim.bind ?_ (fun a a2 h0 h2 => Sim.ok ⟨h2.p, by have := hkp a h0; have := h2.n; show a2.nest - 1 = a.nest - 1 + j; omega, h2.c⟩)
          · by_cases hk : st.now.kind = 0
            · rw [hk, if_neg (by omega), if_neg (by omega), if_neg (by omega)]
              exact Sim.no _ _ _
            · obtain ⟨e1, e2, e3⟩ := h.now hk
              rw [e1, e2, e3]
              exact Sim.ite (fun _ => leaf_sim hb hpre (nst_up h) hk) (fun _ => Sim.ite (fun _ => i4 _ _ _ hk (nst_up h)) (fun _ => Sim.ite (fun _ => i5 _ _ _ hk (nst_up h)) (fun _ => Sim.no _ _ _)))
    · rw [aftW, aftW]
      refine Sim.ite (fun _ => Sim.no _ _ _) (fun _ => Sim.ite (fun _ => leaf_sim hb hpre h hk) (fun _ => Sim.ite (fun _ => ?_) (fun _ => Sim.ite (fun _ => ?_) (fun _ => leaf_sim hb hpre h hk))))
      · refine (nxt_sim hb hpre h hk).bind fun a a2 _ h2 => (i3 _ _ h2).bind fun b b2 _ h3 => ?_
        rw [h3.las]
        exact put_sim _ h3
      · refine (nxt_sim hb hpre h hk).bind fun a a2 _ h2 => (i6 _ _ h2).bind fun b b2 _ h3 => ?_
        rw [h3.las]
        exact put_sim _ h3
    · rw [aftM, aftM]
      refine Sim.ite (fun _ => i6 _ _ h) (fun _ => Sim.ite (fun _ => ?_) (fun _ => Sim.no _ _ _))
      refine (nxt_sim hb hpre h hk).bind fun a a2 _ h2 => (i3 _ _ h2).bind fun b b2 _ h3 => ?_
      rw [h3.las]
      exact put_sim _ h3
    · rw [inBr, inBr]
      exact (must_sim (by decide) hb hpre h).bind fun a a2 _ h2 => (i1 _ _ _ h2).bind fun b b2 _ h3 => must_sim (by decide) hb hpre h3
def sr0 : Rs := ⟨⟨0, 0, [], v0⟩, 0, 0, []⟩
theorem prs_ok {n : Nat} {t : List UInt8} {l : List P10} {a : Int} (h : prs n t = some (l, 0, a)) : ∃ st1 st2, t.length ≤ 512 ∧ nxt t sr0 = .ok st1 ∧ opds t n 1 st1 = .ok st2 ∧ st2.now.kind = 0 ∧ st2.parts = l := by
  unfold prs at h
  split at h
  · cases h
  · rename_i hs
    split at h
    · rename_i x hx
      cases h
      unfold whol at hx
      obtain ⟨a1, h1, h2⟩ := bind_ok hx
      obtain ⟨a2, h3, h4⟩ := bind_ok h2
      split at h4
      · rename_i hk
        cases h4
        exact ⟨a1, a2, by omega, h1, h3, hk, rfl⟩
      · cases h4
    · cases h
      rename_i hx
      rcases whol_en n _ _ hx with e | e <;> cases e
    · cases h
theorem prs_of {n : Nat} {t : List UInt8} (ht : t.length ≤ 512) {x : List P10} (h : whol t n = .ok x) : prs n t = some (x, 0, 0) := by
  unfold prs
  rw [if_neg (by omega), h]
theorem prs_no {n : Nat} {t : List UInt8} (ht : t.length ≤ 512) {a : Int} (h : whol t n = .no 13 a) : prs n t = some ([], 13, a) := by
  unfold prs
  rw [if_neg (by omega), h]
theorem bind_okE {α β : Type} (a : α) (f : α → Ot β) : (Ot.ok a).bind f = f a := rfl
/-- with blanks around the same is read -/
theorem prs_blank {n : Nat} {l : List P10} {a : Int} (hl : s.length ≤ 500) (h : prs n s = some (l, 0, a)) : prs n ([32, 9, 10] ++ s ++ 10 :: [32]) = some (l, 0, 0) := by
  obtain ⟨st1, st2, -, h1, h2, h3, h4⟩ := prs_ok h
  have hb : Beh 10 [32] (s.length + 5) 3 s ⟨0, s.length + 5, [], v0⟩ := ⟨.inr rfl, s.length + 5, 0, rfl, by rw [show spn kB [10, 32] = 2 from rfl]; omega, rfl⟩
  have q1 := nxt_at (pre := [32, 9, 10]) (k := 3) (j := 0) (b := 0) (st := sr0) (st2 := sr0) hb rfl (Nat.zero_le _) rfl rfl rfl ⟨3, rfl, [32, 9, 10], by rw [List.append_assoc]; rfl, rfl, by intro c hc; simp only [List.mem_cons, List.not_mem_nil, or_false] at hc; rcases hc with rfl | rfl | rfl <;> rfl⟩ st1 h1
  rcases q1 with ⟨st1', e1, r1⟩ | ⟨q, -⟩
  · rcases (sim_all (pre := [32, 9, 10]) (k := 3) (j := 0) hb rfl (.inr rfl) n).1 1 st1 st1' r1 st2 h2 with ⟨st2', e2, r2⟩ | ⟨q, -⟩
    · refine prs_of (by simp; omega) ?_
      unfold whol
      rw [show nxt ([32, 9, 10] ++ s ++ 10 :: [32]) ⟨⟨0, 0, [], v0⟩, 0, 0, []⟩ = .ok st1' from e1]
      show (opds _ n 1 st1').bind _ = _
      rw [e2]
      show (if st2'.now.kind = 0 then Ot.ok st2'.parts else _) = _
      rcases r2.c with ⟨c1, -⟩ | ⟨-, -, c3, -⟩
      · exact absurd h3 c1
      · rw [c3, if_pos rfl, r2.p, h4]
    · exact absurd q (Nat.lt_irrefl _)
  · exact absurd q (Nat.lt_irrefl _)
/-- in brackets the same is read, or it nests too deep -/
theorem prs_brk {n : Nat} {l : List P10} {a : Int} (hl : s.length ≤ 500) (h : prs n s = some (l, 0, a)) : prs (n + 4) ([40, 32] ++ s ++ 32 :: [41]) = some (l, 0, 0) ∨ ∃ b, prs (n + 4) ([40, 32] ++ s ++ 32 :: [41]) = some ([], 13, b) := by
  obtain ⟨st1, st2, -, h1, h2, h3, h4⟩ := prs_ok h
  have hb : Beh 32 [41] (s.length + 4) 2 s ⟨4, s.length + 3, [41], v0⟩ := ⟨.inl rfl, s.length + 3, 1, rfl, by rw [show spn kB [32, 41] = 1 from rfl]; omega, rfl⟩
  have hlen : ([40, 32] ++ s ++ 32 :: [41]).length ≤ 512 := by simp; omega
  obtain ⟨t, ht⟩ : ∃ t, [40, 32] ++ s ++ 32 :: [41] = t := ⟨_, rfl⟩
  have htl : t.length = s.length + 4 := by rw [← ht]; simp
  have e0 : nxt t sr0 = .ok ⟨⟨4, 0, [40], v0⟩, 1, 0, []⟩ := by rw [← ht]; rfl
  have q1 := nxt_at (pre := [40, 32]) (k := 2) (j := 1) (b := 0) (st := sr0) (st2 := ⟨⟨4, 0, [40], v0⟩, 1, 1, []⟩) hb rfl (Nat.zero_le _) rfl rfl rfl ⟨1, rfl, [32], by rw [List.append_assoc]; rfl, rfl, by intro c hc; rw [List.mem_singleton] at hc; subst hc; rfl⟩ st1 h1
  have hwhol : ∀ x : Ot Rs, inBr t (n + 1) ⟨⟨4, 0, [40], v0⟩, 1, 1, []⟩ = x → whol t (n + 4) = ((x.bind fun st2 => .ok { st2 with nest := st2.nest - 1 }).bind fun st => more t (n + 3) 1 (lasP st) st).bind fun st => if st.now.kind = 0 then .ok st.parts else .no 10 st.now.at' := by
    rintro x rfl
    unfold whol
    rw [show nxt t ⟨⟨0, 0, [], v0⟩, 0, 0, []⟩ = _ from e0]
    show (opds t (n + 4) 1 _).bind _ = _
    rw [opds, opd]
    rfl
  have hin : inBr t (n + 1) ⟨⟨4, 0, [40], v0⟩, 1, 1, []⟩ = (nxt t ⟨⟨4, 0, [40], v0⟩, 1, 1, []⟩).bind fun st => (opds t n 1 st).bind fun st => must t [41] st := by
    rw [inBr]
    rfl
  rw [ht] at q1
  have hs := (sim_all (pre := [40, 32]) (k := 2) (j := 1) hb rfl (.inl rfl) n).1
  rw [ht] at hs hlen ⊢
  rcases q1 with ⟨st1', e1, r1⟩ | ⟨-, b, e1⟩
  · rcases hs 1 st1 st1' r1 st2 h2 with ⟨st2', e2, r2⟩ | ⟨-, b, e2⟩
    · left
      refine prs_of hlen ?_
      rcases r2.c with ⟨c1, -⟩ | ⟨-, -, c3, c4⟩
      · exact absurd h3 c1
      · have hm : must t [41] st2' = .ok { st2' with now := ⟨0, s.length + 4, [], v0⟩, beh := s.length + 4 } := by
          unfold must
          rw [c3, if_pos rfl]
          unfold nxt
          simp only
          rw [c4, List.drop_eq_nil_of_le (by omega), show spn kB [] = 0 from rfl, Nat.add_zero, List.drop_eq_nil_of_le (by omega)]
          rfl
        have hx : inBr t (n + 1) ⟨⟨4, 0, [40], v0⟩, 1, 1, []⟩ = .ok { st2' with now := ⟨0, s.length + 4, [], v0⟩, beh := s.length + 4 } := by rw [hin, e1]; show (opds t n 1 st1').bind _ = _; rw [e2]; exact hm
        rw [hwhol _ hx]
        rw [bind_okE, bind_okE, more]
        simp only
        rw [if_pos (.inl rfl), bind_okE, if_pos rfl, r2.p, h4]
    · right
      have hx : inBr t (n + 1) ⟨⟨4, 0, [40], v0⟩, 1, 1, []⟩ = .no 13 b := by rw [hin, e1]; show (opds t n 1 st1').bind _ = _; rw [e2]; rfl
      exact ⟨b, prs_no hlen (by rw [hwhol _ hx]; rfl)⟩
  · right
    have hx : inBr t (n + 1) ⟨⟨4, 0, [40], v0⟩, 1, 1, []⟩ = .no 13 b := by rw [hin, e1]; rfl
    exact ⟨b, prs_no hlen (by rw [hwhol _ hx]; rfl)⟩
end Go.Proofs.YtpbfdaijnndilaaGreatDoor.x10

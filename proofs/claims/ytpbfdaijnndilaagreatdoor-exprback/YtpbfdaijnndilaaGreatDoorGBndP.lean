/-
  What is read from a text, plain.
-/
import Derived.Test.YtpbfdaijnndilaaGreatDoorX10Fue
import Derived.Test.YtpbfdaijnndilaaGreatDoorV9May
import Derived.Test.YtpbfdaijnndilaaGreatDoorGMayE
namespace Go.Proofs.YtpbfdaijnndilaaGreatDoor.x10
open Go.RowKit Go.Shelf Go.Sort
open Go.Lib hiding intOf

/-- a small value -/
def Pk (v : V9) : Prop := Vk v ∧ v.2.2.length ≤ 512
/-- a reader whose values are small -/
structure Bd (st : Rs) : Prop where
  v : Pk st.now.v
  s : st.now.s.length ≤ 512
  p : ∀ p ∈ st.parts, Pk p.2.2.2
theorem pk_v0 : Pk v0 := ⟨⟨⟨by decide, by decide⟩, ⟨by decide, by decide⟩, by decide⟩, by decide⟩
theorem pk_tru (b : Bool) : Pk (truV b) := by cases b <;> exact ⟨⟨⟨by decide, by decide⟩, ⟨by decide, by decide⟩, by decide⟩, by decide⟩
theorem pk_txt {w : List UInt8} (h : w.length ≤ 512) : Pk (3, 0, w) := ⟨⟨⟨by show (-9223372036854775808 : Int) ≤ 3; omega, by show (3 : Int) ≤ 9223372036854775807; omega⟩, ⟨by show (-9223372036854775808 : Int) ≤ 0; omega, by show (0 : Int) ≤ 9223372036854775807; omega⟩, by show w.length ≤ _; omega⟩, h⟩
theorem txs_len : ∀ (n : Nat) (acc l : List UInt8), (txs n acc l).1.length ≤ acc.length + n
  | 0, acc, l => Nat.le_refl _
  | n + 1, acc, l => by
    unfold txs
    split
    · simp only; omega
    · have := txs_len n (acc ++ [(rdB1 l).1]) (l.drop (rdB1 l).2)
      rw [List.length_append, List.length_singleton] at this
      omega
theorem tok_bd {b : Nat} {l : List UInt8} {t : Tk} {n : Nat} (hl : l.length ≤ 512) (h : tok b l = .ok (t, n)) : Pk t.v ∧ t.s.length ≤ 512 := by
  unfold tok at h
  split at h
  · cases h; exact ⟨pk_v0, Nat.zero_le _⟩
  · rename_i c r
    have tw : ∀ p : UInt8 → Bool, ((c :: r).takeWhile p).length ≤ (c :: r).length := fun p => (List.takeWhile_prefix p).length_le
    split at h
    · simp only at h
      split at h
      · rename_i hn
        cases h
        refine ⟨⟨⟨⟨by show (-9223372036854775808 : Int) ≤ 1; omega, by show (1 : Int) ≤ 9223372036854775807; omega⟩, ⟨?_, ?_⟩, Nat.zero_le _⟩, Nat.zero_le _⟩, Nat.zero_le _⟩
        · show (-9223372036854775808 : Int) ≤ (numD _ : Int)
          omega
        · show (numD _ : Int) ≤ 9223372036854775807
          have := hn.1
          omega
      · cases h
    · split at h
      · simp only at h
        split at h
        · cases h; exact ⟨pk_v0, Nat.le_trans (tw kW) hl⟩
        · cases h
      · split at h
        · simp only at h
          split at h
          · cases h
            refine ⟨pk_txt ?_, Nat.zero_le _⟩
            have := txs_len (c :: r).length [] ((c :: r).drop 1)
            rw [List.length_nil] at this
            omega
          · cases h
        · split at h
          · rename_i m hm
            cases h
            unfold mkOf at hm
            have := List.find?_some hm
            exact ⟨pk_v0, Nat.le_trans (List.isPrefixOf_iff_prefix.1 this).length_le hl⟩
          · cases h
variable {s : List UInt8}
theorem nxt_bd (hs : s.length ≤ 512) {st st' : Rs} (hg : Bd st) (h : nxt s st = .ok st') : Bd st' := by
  unfold nxt at h
  simp only at h
  split at h
  · rename_i t n ht
    have h1 := tok_bd (by rw [List.length_drop]; omega) ht
    cases h
    exact ⟨h1.1, h1.2, hg.p⟩
  · cases h
  · cases h
theorem put_bd {p : P10} {st st' : Rs} (hp : Pk p.2.2.2) (hg : Bd st) (h : putP p st = .ok st') : Bd st' := by
  unfold putP at h
  split at h
  · cases h
  · cases h
    refine ⟨hg.v, hg.s, fun q hq => ?_⟩
    rcases List.mem_append.1 hq with hq | hq
    · exact hg.p q hq
    · rw [List.mem_singleton] at hq; subst hq; exact hp
theorem leaf_bd (hs : s.length ≤ 512) {op : Int} {v : V9} {st st' : Rs} (hv : Pk v) (hg : Bd st) (h : leaf s op v st = .ok st') : Bd st' := by
  obtain ⟨a, h1, h2⟩ := bind_ok h
  exact put_bd hv (nxt_bd hs hg h1) h2
theorem must_bd (hs : s.length ≤ 512) {m : List UInt8} {st st' : Rs} (hg : Bd st) (h : must s m st = .ok st') : Bd st' := by
  unfold must at h
  split at h
  · exact nxt_bd hs hg h
  · cases h
theorem bd_all (hs : s.length ≤ 512) : ∀ n, (∀ lv st st', Bd st → opds s n lv st = .ok st' → Bd st') ∧ (∀ lv a st st', Bd st → more s n lv a st = .ok st' → Bd st') ∧ (∀ st st', Bd st → opd s n st = .ok st' → Bd st') ∧ (∀ w st st', w.length ≤ 512 → Bd st → aftW s n w st = .ok st' → Bd st') ∧ (∀ m st st', Bd st → aftM s n m st = .ok st' → Bd st') ∧ ∀ st st', Bd st → inBr s n st = .ok st' → Bd st' := by
  intro n
  induction n with
  | zero => exact ⟨fun _ _ _ _ h => (by cases h), fun _ _ _ _ _ h => (by cases h), fun _ _ _ h => (by cases h), fun _ _ _ _ _ h => (by cases h), fun _ _ _ _ h => (by cases h), fun _ _ _ h => (by cases h)⟩
  | succ n ih =>
    obtain ⟨i1, i2, i3, i4, i5, i6⟩ := ih
    refine ⟨fun lv st st' hg h => ?_, fun lv a st st' hg h => ?_, fun st st' hg h => ?_, fun w st st' hw hg h => ?_, fun m st st' hg h => ?_, fun st st' hg h => ?_⟩
    · rw [opds] at h
      obtain ⟨a, h1, h2⟩ := bind_ok h
      exact i2 _ _ _ _ (i3 _ _ hg h1) h2
    · rw [more] at h
      try simp only at h
      split at h
      · cases h; exact hg
      · obtain ⟨a1, h1, h2⟩ := bind_ok h
        obtain ⟨a2, h3, h4⟩ := bind_ok h2
        obtain ⟨a3, h5, h6⟩ := bind_ok h4
        exact i2 _ _ _ _ (put_bd pk_v0 (i1 _ _ _ (nxt_bd hs hg h1) h3) h5) h6
    · rw [opd] at h
      split at h
      · cases h
      · simp only at h
        obtain ⟨a, h1, h2⟩ := bind_ok h
        have hg1 : Bd { st with nest := st.nest + 1 } := ⟨hg.v, hg.s, hg.p⟩
        have g1 : Bd a := by
          split at h1
          · exact leaf_bd hs hg.v hg1 h1
          · split at h1
            · exact i4 _ _ _ hg.s hg1 h1
            · split at h1
              · exact i5 _ _ _ hg1 h1
              · cases h1
        cases h2
        exact ⟨g1.v, g1.s, g1.p⟩
    · rw [aftW] at h
      split at h
      · cases h
      · split at h
        · exact leaf_bd hs (pk_tru _) hg h
        · split at h
          · obtain ⟨a1, h1, h2⟩ := bind_ok h
            obtain ⟨a2, h3, h4⟩ := bind_ok h2
            exact put_bd pk_v0 (i3 _ _ (nxt_bd hs hg h1) h3) h4
          · split at h
            · obtain ⟨a1, h1, h2⟩ := bind_ok h
              obtain ⟨a2, h3, h4⟩ := bind_ok h2
              exact put_bd pk_v0 (i6 _ _ (nxt_bd hs hg h1) h3) h4
            · exact leaf_bd hs (pk_txt hw) hg h
    · rw [aftM] at h
      split at h
      · exact i6 _ _ hg h
      · split at h
        · obtain ⟨a1, h1, h2⟩ := bind_ok h
          obtain ⟨a2, h3, h4⟩ := bind_ok h2
          exact put_bd pk_v0 (i3 _ _ (nxt_bd hs hg h1) h3) h4
        · cases h
    · rw [inBr] at h
      obtain ⟨a1, h1, h2⟩ := bind_ok h
      obtain ⟨a2, h3, h4⟩ := bind_ok h2
      exact must_bd hs (i1 _ _ _ (must_bd hs hg h1) h3) h4
theorem st0_gd (s : List UInt8) : Gd s ⟨⟨0, 0, [], v0⟩, 0, 0, []⟩ := ⟨Nat.zero_le _, Nat.zero_le _, Nat.zero_le _⟩
/-- what Parse leaves: at most a hundred parts, their values small -/
theorem prs_bd {n : Nat} {l : List P10} {e a : Int} (h : prs n s = some (l, e, a)) : l.length ≤ 100 ∧ ∀ p ∈ l, Pk p.2.2.2 := by
  unfold prs at h
  split at h
  · cases h; exact ⟨Nat.zero_le _, fun p hp => by cases hp⟩
  · rename_i hs
    have hs' : s.length ≤ 512 := by omega
    split at h
    · rename_i x hx
      cases h
      unfold whol at hx
      obtain ⟨a1, h1, h2⟩ := bind_ok hx
      obtain ⟨a2, h3, h4⟩ := bind_ok h2
      have g1 := nxt_bd hs' ⟨pk_v0, Nat.zero_le _, fun p hp => by cases hp⟩ h1
      have g2 := (bd_all hs' n).1 _ _ _ g1 h3
      have k1 := (nxt_ok (st0_gd s) h1).1
      have k2 := ((gr_all s n).1 _ _ _ k1 h3).1
      split at h4
      · cases h4; exact ⟨k2.p, g2.p⟩
      · cases h4
    · cases h; exact ⟨Nat.zero_le _, fun p hp => by cases hp⟩
    · cases h
end Go.Proofs.YtpbfdaijnndilaaGreatDoor.x10
namespace Go.Proofs.YtpbfdaijnndilaaGreatDoor.x10
open Go.RowKit Go.Shelf Go.Sort
open Go.Lib hiding intOf

/-- parts as a reader has them: the places that none is of yet; how much each nests -/
structure Pv (l : List P10) (f ns : List Int) : Prop where
  sh : shpS l 0 [] = some f
  ln : ns.length = l.length
  al : ∀ m, l <+: m → ∀ t, alg m (l ++ t) [] = alg m t ns
theorem shpS_app : ∀ (l : List P10) (p : P10) (i : Nat) (f0 : List Int), shpS (l ++ [p]) i f0 = (shpS l i f0).bind (fun f => shpS [p] (i + l.length) f)
  | [], p, i, f0 => rfl
  | q :: t, p, i, f0 => by
    have ih := shpS_app t p (i + 1) (f0.take (f0.length - (hnd q.1).toNat) ++ [(i : Int)])
    rw [List.cons_append]
    simp only [shpS] at ih ⊢
    by_cases c1 : hnd q.1 < 0 ∨ (f0.length : Int) < hnd q.1 ∨ hol q = false
    · rw [if_pos c1, if_pos c1]; rfl
    · rw [if_neg c1, if_neg c1]
      by_cases c2 : isO q (f0.drop (f0.length - (hnd q.1).toNat)) = false
      · rw [if_pos c2, if_pos c2]; rfl
      · rw [if_neg c2, if_neg c2, ih, List.length_cons, show i + 1 + t.length = i + (t.length + 1) by omega]
theorem opAt_pre {l m : List P10} (h : l <+: m) {a : Nat} (ha : a < l.length) : opAt m (a : Int) = opAt l (a : Int) := by
  obtain ⟨t, rfl⟩ := h
  unfold opAt
  rw [Int.toNat_natCast, List.getElem?_append_left ha]
theorem nst_pre {l m : List P10} (h : l <+: m) {p : P10} (hA : 1 ≤ hnd p.1 → ∃ a : Nat, a < l.length ∧ p.2.1 = (a : Int)) (hB : hnd p.1 = 2 → ∃ b : Nat, b < l.length ∧ p.2.2.1 = (b : Int)) (hh : 0 ≤ hnd p.1 ∧ hnd p.1 ≤ 2) (x y : Int) : nst m p x y = nst l p x y := by
  unfold nst
  by_cases h0 : hnd p.1 = 0
  · rw [if_pos h0, if_pos h0]
  · obtain ⟨a, ha, ea⟩ := hA (by omega)
    have e1 : lbr m p = lbr l p := by unfold lbr; rw [ea, opAt_pre h ha]
    rw [if_neg h0, if_neg h0, e1]
    by_cases h1 : hnd p.1 = 1
    · rw [if_pos h1, if_pos h1]
    · obtain ⟨b, hb, eb⟩ := hB (by omega)
      have e2 : rbr m p = rbr l p := by unfold rbr; rw [eb, opAt_pre h hb]
      rw [if_neg h1, if_neg h1, e2]
theorem Pv.nil : Pv [] [] [] := ⟨rfl, rfl, fun _ _ _ => rfl⟩
theorem Pv.put {l : List P10} {f of ns : List Int} {p : P10} (h : Pv l (f ++ of) ns) (hh : hnd p.1 = (of.length : Int)) (h2 : of.length ≤ 2) (hv : hol p = true) (ho : isO p of = true) (hA : 1 ≤ hnd p.1 → ∃ a : Nat, a < l.length ∧ p.2.1 = (a : Int)) (hB : hnd p.1 = 2 → ∃ b : Nat, b < l.length ∧ p.2.2.1 = (b : Int)) :
    Pv (l ++ [p]) (f ++ [(l.length : Int)]) (ns ++ [nst (l ++ [p]) p (gt ns p.2.1) (gt ns p.2.2.1)]) := by
  refine ⟨?_, by rw [List.length_append, List.length_append, h.ln]; rfl, fun m hm t => ?_⟩
  · rw [shpS_app, h.sh]
    show shpS [p] (0 + l.length) (f ++ of) = _
    have e : (f ++ of).length - (hnd p.1).toNat = f.length := by rw [hh, Int.toNat_natCast, List.length_append]; omega
    simp only [shpS]
    rw [if_neg (by rw [hv, hh, List.length_append]; simp; omega), if_neg (by rw [e, List.drop_left, ho]; simp), e, List.take_left, Nat.zero_add]
  · rw [List.append_assoc, h.al m ((List.prefix_append l [p]).trans hm)]
    show alg m (p :: t) ns = _
    rw [alg_cons, nst_pre hm (fun q => by obtain ⟨a, ha, e⟩ := hA q; exact ⟨a, by rw [List.length_append]; omega, e⟩) (fun q => by obtain ⟨a, ha, e⟩ := hB q; exact ⟨a, by rw [List.length_append]; omega, e⟩) ⟨by omega, by omega⟩]
/-- a token as it may be -/
def Tg (t : Tk) : Prop := (t.kind = 1 ∨ t.kind = 2 → mayV t.v = true ∧ 0 ≤ t.v.2.1) ∧ (t.kind = 3 → namV t.s = true ∨ wds.contains t.s = true)
theorem tok_tg {b : Nat} {l : List UInt8} {t : Tk} {n : Nat} (hl : l.length ≤ 512) (h : tok b l = .ok (t, n)) : Tg t := by
  unfold tok at h
  split at h
  · cases h; exact ⟨fun q => by simp at q, fun q => by simp at q⟩
  · rename_i c r
    split at h
    · simp only at h
      split at h
      · cases h
        exact ⟨fun _ => ⟨by simp [mayV], by show (0 : Int) ≤ (numD _ : Int); omega⟩, fun q => by simp at q⟩
      · cases h
    · split at h
      · simp only at h
        split at h
        · rename_i hn
          cases h
          exact ⟨fun q => by simp at q, fun _ => by simpa using hn⟩
        · cases h
      · split at h
        · simp only at h
          split at h
          · cases h
            have := txs_len (c :: r).length [] ((c :: r).drop 1)
            rw [List.length_nil] at this
            refine ⟨fun _ => ⟨?_, Int.le_refl _⟩, fun q => by simp at q⟩
            unfold mayV
            rw [if_pos rfl]
            exact decide_eq_true ⟨rfl, by show (txs _ _ _).1.length ≤ 1024; omega⟩
          · cases h
        · split at h
          · cases h; exact ⟨fun q => by simp at q, fun q => by simp at q⟩
          · cases h
variable {s : List UInt8}
theorem nxt_tg (hs : s.length ≤ 512) {st st' : Rs} (h : nxt s st = .ok st') : Tg st'.now ∧ st'.parts = st.parts ∧ st'.nest = st.nest := by
  unfold nxt at h
  simp only at h
  split at h
  · rename_i t n ht
    have h1 := tok_tg (by rw [List.length_drop]; omega) ht
    cases h
    exact ⟨h1, rfl, rfl⟩
  · cases h
  · cases h
theorem put_tg {p : P10} {st st' : Rs} (h : putP p st = .ok st') : st'.now = st.now ∧ st'.parts = st.parts ++ [p] ∧ st'.nest = st.nest := by
  unfold putP at h
  split at h
  · cases h
  · cases h; exact ⟨rfl, rfl, rfl⟩
theorem must_tg (hs : s.length ≤ 512) {m : List UInt8} {st st' : Rs} (h : must s m st = .ok st') : Tg st'.now ∧ st'.parts = st.parts ∧ st'.nest = st.nest := by
  unfold must at h
  split at h
  · exact nxt_tg hs h
  · cases h
theorem twoH_rng (t : List UInt8) : twoH t = 0 ∨ (6 ≤ twoH t ∧ twoH t ≤ 18) := by
  unfold twoH
  split
  · rename_i i hi
    have := List.mem_of_find?_eq_some hi
    rw [List.mem_range] at this
    exact .inr ⟨by omega, by omega⟩
  · exact .inl rfl
theorem lvl_rng {op : Nat} (h : 6 ≤ op ∧ op ≤ 18) : 1 ≤ lvl op ∧ lvl op ≤ 5 := by
  rcases (by omega : op = 6 ∨ op = 7 ∨ op = 8 ∨ op = 9 ∨ op = 10 ∨ op = 11 ∨ op = 12 ∨ op = 13 ∨ op = 14 ∨ op = 15 ∨ op = 16 ∨ op = 17 ∨ op = 18) with rfl | rfl | rfl | rfl | rfl | rfl | rfl | rfl | rfl | rfl | rfl | rfl | rfl <;> decide
/-- how much the last part nests, where something of that level stands around it -/
def nl (l : List P10) (ns : List Int) (lv : Int) : Int := gt ns ((l.length : Int) - 1) + (if lvI (opAt l ((l.length : Int) - 1)) < lv then 1 else 0)
/-- what reading something leaves -/
def Got (l : List P10) (f ns : List Int) (d : Nat) (D lv : Int) (st' : Rs) : Prop :=
  st'.nest = d ∧ Tg st'.now ∧ l <+: st'.parts ∧ ∃ ns', ns <+: ns' ∧ Pv st'.parts (f ++ [lasP st']) ns' ∧ nl st'.parts ns' lv + D ≤ 20
theorem nl_mono {l : List P10} {ns : List Int} {a b : Int} (h : a ≤ b) : nl l ns a ≤ nl l ns b := by
  unfold nl
  split <;> split <;> omega
theorem nl_one (l : List P10) (ns : List Int) (a b : Int) : nl l ns a ≤ nl l ns b + 1 := by
  unfold nl
  split <;> split <;> omega
theorem Pv.pos {l : List P10} {f ns : List Int} {x : Int} (h : Pv l (f ++ [x]) ns) : 1 ≤ l.length := by
  cases l with
  | nil =>
    have := h.sh
    simp [shpS] at this
  | cons a t => simp
/-- the last part, put there -/
theorem nl_put {l : List P10} {ns : List Int} (hn : ns.length = l.length) (p : P10) (v lv : Int) : nl (l ++ [p]) (ns ++ [v]) lv = v + (if lvI p.1 < lv then 1 else 0) := by
  unfold nl
  have e : (((l ++ [p]).length : Nat) : Int) - 1 = ((l.length : Nat) : Int) := by rw [List.length_append, List.length_singleton]; omega
  have h1 : opAt (l ++ [p]) ((l.length : Nat) : Int) = p.1 := by
    unfold opAt
    rw [Int.toNat_natCast, List.getElem?_append_right (Nat.le_refl _), Nat.sub_self]
    rfl
  have h2 : gt (ns ++ [v]) ((l.length : Nat) : Int) = v := by
    rw [gt_at (by rw [List.length_append, hn]; simp)]
    rw [List.getElem_append_right (by omega)]
    simp
  rw [e, h1, h2]
theorem gt_pre {ns ms : List Int} (h : ns <+: ms) {a : Nat} (ha : a < ns.length) : gt ms (a : Int) = gt ns (a : Int) := by
  obtain ⟨t, rfl⟩ := h
  rw [gt_at (by rw [List.length_append]; omega), gt_at ha, List.getElem_append_left ha]
theorem leaf_got (hs : s.length ≤ 512) {op : Int} {v : V9} {st st' : Rs} {f ns : List Int} (hop : op = 1 ∨ op = 2) (hv : hol (op, -1, -1, v) = true) (h : Pv st.parts f ns) (hd : 1 ≤ st.nest ∧ st.nest ≤ 20) (hr : leaf s op v st = .ok st') : Got st.parts f ns st.nest ((st.nest : Int) - 1) 6 st' := by
  obtain ⟨st1, h1, h2⟩ := bind_ok hr
  obtain ⟨t1, t2, t3⟩ := nxt_tg hs h1
  obtain ⟨u1, u2, u3⟩ := put_tg h2
  have hh : hnd op = 0 := by rcases hop with rfl | rfl <;> rfl
  have hp := Pv.put (f := f) (of := []) (p := (op, -1, -1, v)) (by rw [List.append_nil]; exact h) hh (by simp) hv rfl (fun q => by simp only [hh] at q; omega) (fun q => by simp only [hh] at q; omega)
  have hn : nst (st.parts ++ [(op, -1, -1, v)]) (op, -1, -1, v) (gt ns (-1)) (gt ns (-1)) = 1 := if_pos hh
  simp only [hn] at hp
  have e : lasP st' = (st.parts.length : Int) := by unfold lasP; rw [u2, t2, List.length_append, List.length_singleton]; omega
  refine ⟨u3.trans t3, by rw [u1]; exact t1, by rw [u2, t2]; exact List.prefix_append _ _, _, List.prefix_append _ [1], ?_, ?_⟩
  · rw [u2, t2, e]; exact hp
  · rw [u2, t2, nl_put h.ln, if_neg (by show ¬ lvI op < 6; rcases hop with rfl | rfl <;> decide)]
    omega
/-- a part of one part behind it -/
theorem one_got {op : Int} {st2 st3 : Rs} {l : List P10} {f ns : List Int} {d : Nat} {D D' lv : Int} (hop : op = 3 ∨ op = 4 ∨ op = 5) (hlv : op ≠ 5 → lv = 6) (hD : D = D' + 1) (hg : Got l f ns d D lv st2) (hr : putP (op, lasP st2, -1, v0) st2 = .ok st3) : Got l f ns d D' 6 st3 := by
  obtain ⟨g1, g2, g3, ns2, g4, g5, g6⟩ := hg
  obtain ⟨u1, u2, u3⟩ := put_tg hr
  have hh : hnd op = 1 := by rcases hop with rfl | rfl | rfl <;> rfl
  have hpos := g5.pos
  have hla : lasP st2 = ((st2.parts.length - 1 : Nat) : Int) := by unfold lasP; omega
  have hp := Pv.put (f := f) (of := [lasP st2]) (p := (op, lasP st2, -1, v0)) g5 hh (by simp) (by rcases hop with rfl | rfl | rfl <;> rfl) (by simp [isO]) (fun _ => ⟨st2.parts.length - 1, by omega, hla⟩) (fun q => by simp only [hh] at q; omega)
  have e : lasP st3 = (st2.parts.length : Int) := by unfold lasP; rw [u2, List.length_append, List.length_singleton]; omega
  refine ⟨u3.trans g1, by rw [u1]; exact g2, by rw [u2]; exact g3.trans (List.prefix_append _ _), _, g4.trans (List.prefix_append _ _), by rw [u2, e]; exact hp, ?_⟩
  rw [u2, nl_put g5.ln, if_neg (by show ¬ lvI op < 6; rcases hop with rfl | rfl | rfl <;> decide)]
  have hb : lbr (st2.parts ++ [(op, lasP st2, -1, v0)]) (op, lasP st2, -1, v0) = decide (lvI (opAt st2.parts (lasP st2)) < 6) := by
    unfold lbr
    simp only
    rw [hla, opAt_pre (List.prefix_append _ _) (by omega)]
    rcases hop with rfl | rfl | rfl <;> rfl
  unfold nl at g6
  have e2 : (st2.parts.length : Int) - 1 = lasP st2 := rfl
  rw [e2] at g6
  unfold nst
  rw [if_neg (by simp only [hh]; omega), if_pos (by simp only [hh])]
  simp only [hb]
  by_cases h5 : op = 5
  · rw [if_neg (fun q => q.1 h5)]
    split at g6 <;> omega
  · rw [hlv h5] at g6
    by_cases hq : lvI (opAt st2.parts (lasP st2)) < 6
    · rw [if_pos ⟨h5, decide_eq_true hq⟩]
      rw [if_pos hq] at g6
      omega
    · rw [if_neg (fun q => hq (of_decide_eq_true q.2))]
      rw [if_neg hq] at g6
      omega
/-- a part of two parts behind it -/
theorem two_got {op : Nat} {st st2 st3 : Rs} {f ns : List Int} {d : Nat} {lv : Int} (hop : 6 ≤ op ∧ op ≤ 18) (hlv : lv ≤ lvl op) (h0 : Pv st.parts (f ++ [lasP st]) ns) (hc : nl st.parts ns (lvl op) + (d : Int) ≤ 20)
    (hg : Got st.parts (f ++ [lasP st]) ns d (d : Int) (lvl op + 1) st2) (hex : twoH st2.now.s = 0 ∨ lvl (twoH st2.now.s) < lvl op + 1) (hr : putP ((op : Int), lasP st, lasP st2, v0) st2 = .ok st3) :
    st3.nest = d ∧ Tg st3.now ∧ st.parts <+: st3.parts ∧ ∃ ns3, ns <+: ns3 ∧ Pv st3.parts (f ++ [lasP st3]) ns3 ∧ nl st3.parts ns3 lv + (d : Int) ≤ 20 ∧ (twoH st3.now.s ≠ 0 → nl st3.parts ns3 (lvl (twoH st3.now.s)) + (d : Int) ≤ 20) := by
  obtain ⟨g1, g2, g3, ns2, g4, g5, g6⟩ := hg
  obtain ⟨u1, u2, u3⟩ := put_tg hr
  have hh : hnd (op : Int) = 2 := by unfold hnd; rw [if_neg (by omega), if_neg (by omega), if_neg (by omega)]
  have hp0 := h0.pos
  have hpos := g5.pos
  have hle := g3.length_le
  have hla : lasP st = ((st.parts.length - 1 : Nat) : Int) := by unfold lasP; omega
  have hlb : lasP st2 = ((st2.parts.length - 1 : Nat) : Int) := by unfold lasP; omega
  have hhol : hol ((op : Int), lasP st, lasP st2, v0) = true := by
    unfold hol
    rw [if_neg (by show ¬ (op : Int) = 1; omega), if_neg (by show ¬ (op : Int) = 2; omega)]
    rfl
  have hp := Pv.put (f := f) (of := [lasP st, lasP st2]) (p := ((op : Int), lasP st, lasP st2, v0)) (by have := g5; rwa [List.append_assoc] at this) hh (by simp) hhol (by simp [isO]) (fun _ => ⟨st.parts.length - 1, by omega, hla⟩) (fun _ => ⟨st2.parts.length - 1, by omega, hlb⟩)
  have e : lasP st3 = (st2.parts.length : Int) := by unfold lasP; rw [u2, List.length_append, List.length_singleton]; omega
  have hlI : lvI (op : Int) = lvl op := by unfold lvI; rw [Int.toNat_natCast]
  obtain ⟨v, hv⟩ : ∃ v, nst (st2.parts ++ [((op : Int), lasP st, lasP st2, v0)]) ((op : Int), lasP st, lasP st2, v0) (gt ns2 (lasP st)) (gt ns2 (lasP st2)) = v := ⟨_, rfl⟩
  have hvb : v + (d : Int) ≤ 20 := by
    have b1 : lbr (st2.parts ++ [((op : Int), lasP st, lasP st2, v0)]) ((op : Int), lasP st, lasP st2, v0) = decide (lvI (opAt st.parts (lasP st)) < lvl op) := by
      unfold lbr
      simp only
      rw [hla, opAt_pre (List.prefix_append _ _) (by omega), opAt_pre g3 (by omega), hlI]
    have b2 : rbr (st2.parts ++ [((op : Int), lasP st, lasP st2, v0)]) ((op : Int), lasP st, lasP st2, v0) = decide (lvI (opAt st2.parts (lasP st2)) ≤ lvl op) := by
      unfold rbr
      simp only
      rw [hlb, opAt_pre (List.prefix_append _ _) (by omega), hlI]
    have k1 : gt ns2 (lasP st) = gt ns (lasP st) := by rw [hla]; exact gt_pre g4 (by rw [h0.ln]; omega)
    unfold nl at hc g6
    have e1 : (st.parts.length : Int) - 1 = lasP st := rfl
    have e2 : (st2.parts.length : Int) - 1 = lasP st2 := rfl
    rw [e1] at hc
    rw [e2] at g6
    rw [← hv]
    unfold nst
    rw [if_neg (by simp only [hh]; omega), if_neg (by simp only [hh]; omega), b1, b2, k1]
    have m1 : (if decide (lvI (opAt st.parts (lasP st)) < lvl op) = true then gt ns (lasP st) + 1 else gt ns (lasP st)) + (d : Int) ≤ 20 := by
      by_cases hq : lvI (opAt st.parts (lasP st)) < lvl op
      · rw [if_pos (decide_eq_true hq)]; rw [if_pos hq] at hc; omega
      · rw [if_neg (fun q => hq (of_decide_eq_true q))]; rw [if_neg hq] at hc; omega
    have m2 : (if decide (lvI (opAt st2.parts (lasP st2)) ≤ lvl op) = true then gt ns2 (lasP st2) + 1 else gt ns2 (lasP st2)) + (d : Int) ≤ 20 := by
      by_cases hq : lvI (opAt st2.parts (lasP st2)) ≤ lvl op
      · rw [if_pos (decide_eq_true hq)]; rw [if_pos (by omega)] at g6; omega
      · rw [if_neg (fun q => hq (of_decide_eq_true q))]; rw [if_neg (by omega)] at g6; omega
    omega
  simp only [hv] at hp
  refine ⟨u3.trans g1, by rw [u1]; exact g2, by rw [u2]; exact g3.trans (List.prefix_append _ _), _, g4.trans (List.prefix_append _ _), by rw [u2, e]; exact hp, ?_, fun q => ?_⟩
  · rw [u2, nl_put g5.ln, if_neg (by show ¬ lvI (op : Int) < lv; omega)]
    omega
  · rw [u1] at q ⊢
    rw [u2, nl_put g5.ln, if_neg (by show ¬ lvI (op : Int) < _; rcases hex with h | h; exact absurd h q; omega)]
    omega
theorem Got.up {l l2 : List P10} {f ns ns2 : List Int} {d : Nat} {D lv : Int} {st' : Rs} (h : Got l2 f ns2 d D lv st') (h1 : l <+: l2) (h2 : ns <+: ns2) : Got l f ns d D lv st' := by
  obtain ⟨g1, g2, g3, ns', g4, g5, g6⟩ := h
  exact ⟨g1, g2, h1.trans g3, ns', h2.trans g4, g5, g6⟩
theorem wds_name {w : List UInt8} (h : namV w = true ∨ wds.contains w = true) (h1 : ¬ (w = [97, 110, 100] ∨ w = [111, 114])) (h2 : ¬ (w = [116, 114, 117, 101] ∨ w = [102, 97, 108, 115, 101])) (h3 : ¬ w = [110, 111, 116]) (h4 : ¬ w = [108, 101, 110]) : namV w = true := by
  rcases h with h | h
  · exact h
  · have h' : w ∈ wds := List.contains_iff_mem.1 h
    simp only [wds, List.mem_cons, List.not_mem_nil, or_false] at h'
    rcases h' with e | e | e | e | e | e
    · exact absurd (.inl e) h1
    · exact absurd (.inr e) h1
    · exact absurd e h3
    · exact absurd (.inl e) h2
    · exact absurd (.inr e) h2
    · exact absurd e h4
set_option maxHeartbeats 1000000 in
theorem got_all (hs : s.length ≤ 512) : ∀ n,
    (∀ lv st st' f ns, lv ≤ 6 → st.nest ≤ 20 → Tg st.now → Pv st.parts f ns → opds s n lv st = .ok st' → Got st.parts f ns st.nest (st.nest : Int) lv st' ∧ (twoH st'.now.s = 0 ∨ lvl (twoH st'.now.s) < lv)) ∧
    (∀ lv st st' f ns, lv ≤ 6 → st.nest ≤ 20 → Tg st.now → Pv st.parts (f ++ [lasP st]) ns → nl st.parts ns lv + (st.nest : Int) ≤ 20 → (twoH st.now.s ≠ 0 → nl st.parts ns (lvl (twoH st.now.s)) + (st.nest : Int) ≤ 20) → more s n lv (lasP st) st = .ok st' → Got st.parts f ns st.nest (st.nest : Int) lv st' ∧ (twoH st'.now.s = 0 ∨ lvl (twoH st'.now.s) < lv)) ∧
    (∀ st st' f ns, st.nest ≤ 20 → Tg st.now → Pv st.parts f ns → opd s n st = .ok st' → Got st.parts f ns st.nest (st.nest : Int) 6 st') ∧
    (∀ w st st' f ns, (1 ≤ st.nest ∧ st.nest ≤ 20) → Tg st.now → (namV w = true ∨ wds.contains w = true) → Pv st.parts f ns → aftW s n w st = .ok st' → Got st.parts f ns st.nest ((st.nest : Int) - 1) 6 st') ∧
    (∀ m st st' f ns, (1 ≤ st.nest ∧ st.nest ≤ 20) → Tg st.now → Pv st.parts f ns → aftM s n m st = .ok st' → Got st.parts f ns st.nest ((st.nest : Int) - 1) 6 st') ∧
    (∀ st st' f ns, st.nest ≤ 20 → Tg st.now → Pv st.parts f ns → inBr s n st = .ok st' → Got st.parts f ns st.nest (st.nest : Int) 1 st') := by
  intro n
  induction n with
  | zero => exact ⟨fun _ _ _ _ _ _ _ _ _ h => (by cases h), fun _ _ _ _ _ _ _ _ _ _ _ h => (by cases h), fun _ _ _ _ _ _ _ h => (by cases h), fun _ _ _ _ _ _ _ _ _ h => (by cases h), fun _ _ _ _ _ _ _ _ h => (by cases h), fun _ _ _ _ _ _ _ h => (by cases h)⟩
  | succ n ih =>
    obtain ⟨i1, i2, i3, i4, i5, i6⟩ := ih
    refine ⟨fun lv st st' f ns hl hn ht hp h => ?_, fun lv st st' f ns hl hn ht hp hc hc2 h => ?_, fun st st' f ns hn ht hp h => ?_, fun w st st' f ns hn ht hw hp h => ?_, fun m st st' f ns hn ht hp h => ?_, fun st st' f ns hn ht hp h => ?_⟩
    · rw [opds] at h
      obtain ⟨a, h1, h2⟩ := bind_ok h
      obtain ⟨g1, g2, g3, ns', g4, g5, g6⟩ := i3 _ _ _ _ hn ht hp h1
      have k := i2 lv a st' f ns' hl (by omega) g2 g5 (by rw [g1]; have := nl_mono (l := a.parts) (ns := ns') hl; omega) (fun q => by
        rw [g1]
        have h3 : lvl (twoH a.now.s) ≤ 6 := by rcases twoH_rng a.now.s with e | e; exact absurd e q; have := lvl_rng e; omega
        have := nl_mono (l := a.parts) (ns := ns') h3
        omega) h2
      rw [g1] at k
      exact ⟨k.1.up g3 g4, k.2⟩
    · rw [more] at h
      try simp only at h
      split at h
      · rename_i hq
        cases h
        exact ⟨⟨rfl, ht, List.prefix_refl _, ns, List.prefix_refl _, hp, hc⟩, hq⟩
      · rename_i hq
        have hq0 : twoH st.now.s ≠ 0 := fun e => hq (.inl e)
        have hql : lv ≤ lvl (twoH st.now.s) := Int.not_lt.1 (fun e => hq (.inr e))
        have hrng : 6 ≤ twoH st.now.s ∧ twoH st.now.s ≤ 18 := (twoH_rng _).resolve_left hq0
        have hlr := lvl_rng hrng
        obtain ⟨a1, h1, h2⟩ := bind_ok h
        obtain ⟨a2, h3, h4⟩ := bind_ok h2
        obtain ⟨a3, h5, h6⟩ := bind_ok h4
        obtain ⟨t1, t2, t3⟩ := nxt_tg hs h1
        obtain ⟨k1, k2⟩ := i1 (lvl (twoH st.now.s) + 1) a1 a2 (f ++ [lasP st]) ns (by omega) (by omega) t1 (by rw [t2]; exact hp) h3
        rw [t2, t3] at k1
        obtain ⟨g1, g2, g3, ns3, g4, g5, g6, g7⟩ := two_got (st := st) hrng hql hp (hc2 hq0) k1 k2 h5
        have k := i2 lv a3 st' f ns3 hl (by omega) g2 g5 (by rw [g1]; exact g6) (fun q => by rw [g1]; exact g7 q) h6
        rw [g1] at k
        exact ⟨k.1.up g3 g4, k.2⟩
    · rw [opd] at h
      split at h
      · cases h
      · rename_i hn20
        simp only at h
        obtain ⟨a, h1, h2⟩ := bind_ok h
        have hn1 : 1 ≤ st.nest + 1 ∧ st.nest + 1 ≤ 20 := ⟨by omega, by omega⟩
        have g1 : Got st.parts f ns (st.nest + 1) ((st.nest : Int)) 6 a := by
          have e : (((st.nest + 1 : Nat) : Int)) - 1 = (st.nest : Int) := by omega
          rw [← e]
          split at h1
          · rename_i hk
            have hv := ht.1 hk
            exact leaf_got (st := { st with nest := st.nest + 1 }) hs (.inl rfl) (by unfold hol; rw [if_pos rfl]; simp only [Bool.and_eq_true]; exact ⟨hv.1, decide_eq_true hv.2⟩) hp hn1 h1
          · split at h1
            · rename_i hk
              exact i4 _ { st with nest := st.nest + 1 } _ _ _ hn1 ht (ht.2 hk) hp h1
            · split at h1
              · exact i5 _ { st with nest := st.nest + 1 } _ _ _ hn1 ht hp h1
              · cases h1
        obtain ⟨q1, q2, q3, ns', q4, q5, q6⟩ := g1
        cases h2
        exact ⟨by simp only; omega, q2, q3, ns', q4, q5, q6⟩
    · rw [aftW] at h
      split at h
      · cases h
      · rename_i w1
        split at h
        · rename_i w2
          refine leaf_got hs (.inl rfl) ?_ hp hn h
          unfold hol truV
          cases (w == [116, 114, 117, 101]) <;> rfl
        · rename_i w2
          split at h
          · obtain ⟨a1, h1, h2⟩ := bind_ok h
            obtain ⟨a2, h3, h4⟩ := bind_ok h2
            obtain ⟨t1, t2, t3⟩ := nxt_tg hs h1
            have k := i3 a1 a2 f ns (by omega) t1 (by rw [t2]; exact hp) h3
            rw [t2, t3] at k
            exact one_got (.inr (.inl rfl)) (fun _ => rfl) (by omega) k h4
          · rename_i w3
            split at h
            · obtain ⟨a1, h1, h2⟩ := bind_ok h
              obtain ⟨a2, h3, h4⟩ := bind_ok h2
              obtain ⟨t1, t2, t3⟩ := nxt_tg hs h1
              have k := i6 a1 a2 f ns (by omega) t1 (by rw [t2]; exact hp) h3
              rw [t2, t3] at k
              exact one_got (.inr (.inr rfl)) (fun q => absurd rfl q) (by omega) k h4
            · rename_i w4
              refine leaf_got hs (.inr rfl) ?_ hp hn h
              unfold hol
              rw [if_neg (by simp), if_pos rfl, wds_name hw w1 w2 w3 w4]
              simp
    · rw [aftM] at h
      split at h
      · obtain ⟨g1, g2, g3, ns', g4, g5, g6⟩ := i6 _ _ _ _ hn.2 ht hp h
        exact ⟨g1, g2, g3, ns', g4, g5, by have := nl_one st'.parts ns' 6 1; omega⟩
      · split at h
        · obtain ⟨a1, h1, h2⟩ := bind_ok h
          obtain ⟨a2, h3, h4⟩ := bind_ok h2
          obtain ⟨t1, t2, t3⟩ := nxt_tg hs h1
          have k := i3 a1 a2 f ns (by omega) t1 (by rw [t2]; exact hp) h3
          rw [t2, t3] at k
          exact one_got (.inl rfl) (fun _ => rfl) (by omega) k h4
        · cases h
    · rw [inBr] at h
      obtain ⟨a1, h1, h2⟩ := bind_ok h
      obtain ⟨a2, h3, h4⟩ := bind_ok h2
      obtain ⟨t1, t2, t3⟩ := must_tg hs h1
      have k := (i1 1 a1 a2 f ns (by omega) (by omega) t1 (by rw [t2]; exact hp) h3).1
      rw [t2, t3] at k
      obtain ⟨u1, u2, u3⟩ := must_tg hs h4
      obtain ⟨g1, g2, g3, ns', g4, g5, g6⟩ := k
      have e : lasP st' = lasP a2 := by unfold lasP; rw [u2]
      exact ⟨u3.trans g1, u1, by rw [u2]; exact g3, ns', g4, by rw [u2, e]; exact g5, by rw [u2]; exact g6⟩
/-- what is wrong is one of the two -/
def En {α : Type} (x : Ot α) : Prop := ∀ e a, x = .no e a → e = 10 ∨ e = 13
theorem En.ok {α : Type} (x : α) : En (.ok x) := fun e a h => by cases h
theorem En.out {α : Type} : En (.out : Ot α) := fun e a h => by cases h
theorem En.t {α : Type} (a : Int) : En (.no 10 a : Ot α) := fun e b h => by cases h; exact .inl rfl
theorem En.h {α : Type} (a : Int) : En (.no 13 a : Ot α) := fun e b h => by cases h; exact .inr rfl
theorem En.bind {α β : Type} {x : Ot α} {f : α → Ot β} (h : En x) (hf : ∀ y, En (f y)) : En (x.bind f) := by
  cases x with
  | ok y => exact hf y
  | no e a => intro e' a' q; cases q; exact h e a rfl
  | out => exact En.out
theorem En.ite {α : Type} {c : Prop} [Decidable c] {x y : Ot α} (hx : En x) (hy : En y) : En (if c then x else y) := by
  by_cases h : c
  · rw [if_pos h]; exact hx
  · rw [if_neg h]; exact hy
theorem tok_en (b : Nat) (l : List UInt8) : En (tok b l) := by
  unfold tok
  split
  · exact En.ok _
  · refine En.ite (En.ite (En.ok _) (En.t _)) (En.ite (En.ite (En.ok _) (En.t _)) (En.ite ?_ ?_))
    · simp only
      split
      · exact En.ok _
      · exact En.t _
    · split
      · exact En.ok _
      · exact En.t _
theorem nxt_en (st : Rs) : En (nxt s st) := by
  unfold nxt
  simp only
  have := tok_en (st.beh + spn kB (s.drop st.beh)) (s.drop (st.beh + spn kB (s.drop st.beh)))
  split
  · exact En.ok _
  · rename_i e a h
    intro e' a' q
    cases q
    exact this e a h
  · exact En.out
theorem put_en (p : P10) (st : Rs) : En (putP p st) := En.ite (En.h _) (En.ok _)
theorem leaf_en (op : Int) (v : V9) (st : Rs) : En (leaf s op v st) := En.bind (nxt_en st) (put_en _)
theorem must_en (m : List UInt8) (st : Rs) : En (must s m st) := En.ite (nxt_en st) (En.t _)
theorem en_all : ∀ n, (∀ lv st, En (opds s n lv st)) ∧ (∀ lv a st, En (more s n lv a st)) ∧ (∀ st, En (opd s n st)) ∧ (∀ w st, En (aftW s n w st)) ∧ (∀ m st, En (aftM s n m st)) ∧ ∀ st, En (inBr s n st) := by
  intro n
  induction n with
  | zero => exact ⟨fun _ _ => (by rw [opds]; exact En.out), fun _ _ _ => (by rw [more]; exact En.out), fun _ => (by rw [opd]; exact En.out), fun _ _ => (by rw [aftW]; exact En.out), fun _ _ => (by rw [aftM]; exact En.out), fun _ => (by rw [inBr]; exact En.out)⟩
  | succ n ih =>
    obtain ⟨i1, i2, i3, i4, i5, i6⟩ := ih
    refine ⟨fun lv st => ?_, fun lv a st => ?_, fun st => ?_, fun w st => ?_, fun m st => ?_, fun st => ?_⟩
    · rw [opds]
      exact (i3 st).bind fun y => i2 _ _ _
    · rw [more]
      exact En.ite (En.ok _) ((nxt_en st).bind fun y => (i1 _ y).bind fun z => (put_en _ z).bind fun u => i2 _ _ u)
    · rw [opd]
      exact En.ite (En.h _) (En.bind (En.ite (leaf_en _ _ _) (En.ite (i4 _ _) (En.ite (i5 _ _) (En.t _)))) fun y => En.ok _)
    · rw [aftW]
      exact En.ite (En.t _) (En.ite (leaf_en _ _ _) (En.ite ((nxt_en st).bind fun y => (i3 y).bind fun z => put_en _ z) (En.ite ((nxt_en st).bind fun y => (i6 y).bind fun z => put_en _ z) (leaf_en _ _ _))))
    · rw [aftM]
      exact En.ite (i6 st) (En.ite ((nxt_en st).bind fun y => (i3 y).bind fun z => put_en _ z) (En.t _))
    · rw [inBr]
      exact (must_en _ st).bind fun y => (i1 _ y).bind fun z => must_en _ z
theorem whol_en (n : Nat) : En (whol s n) := (nxt_en _).bind fun y => ((en_all n).1 1 y).bind fun _ => En.ite (En.ok _) (En.t _)
/-- what Parse reads May lets pass -/
theorem prs_may {n : Nat} {l : List P10} {a : Int} (h : prs n s = some (l, 0, a)) : mayE l = true := by
  have hb := (prs_bd h).1
  unfold prs at h
  split at h
  · cases h
  · rename_i hs
    have hs' : s.length ≤ 512 := by omega
    split at h
    · rename_i x hx
      cases h
      unfold whol at hx
      obtain ⟨a1, h1, h2⟩ := bind_ok hx
      obtain ⟨a2, h3, h4⟩ := bind_ok h2
      obtain ⟨t1, t2, t3⟩ := nxt_tg hs' h1
      have k := ((got_all hs' n).1 1 a1 a2 [] [] (by omega) (by rw [t3]; exact Nat.zero_le _) t1 (by rw [t2]; exact Pv.nil) h3).1
      rw [t2, t3] at k
      obtain ⟨g1, g2, g3, ns', g4, g5, g6⟩ := k
      split at h4
      · cases h4
        have hpos := g5.pos
        have ha := g5.al a2.parts (List.prefix_refl _) []
        rw [List.append_nil] at ha
        unfold mayE shp
        rw [g5.sh, ha, show alg a2.parts [] ns' = ns' from rfl]
        simp only [Bool.and_eq_true, decide_eq_true_eq]
        refine ⟨⟨hb, by simp [shpF]⟩, ?_⟩
        have e : gt ns' ((a2.parts.length : Int) - 1) = ns'[a2.parts.length - 1]?.getD 0 := by
          unfold gt
          rw [if_pos (by omega), show ((a2.parts.length : Int) - 1).toNat = a2.parts.length - 1 by omega]
        rw [← e]
        unfold nl at g6
        split at g6 <;> omega
      · cases h4
    · cases h
      rename_i hx
      rcases whol_en n _ _ hx with e | e <;> cases e
    · cases h
end Go.Proofs.YtpbfdaijnndilaaGreatDoor.x10

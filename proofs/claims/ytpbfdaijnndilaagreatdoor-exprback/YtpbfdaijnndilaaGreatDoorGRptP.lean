/-
  What is printed is read again, plain.
-/
import Derived.Test.YtpbfdaijnndilaaGreatDoorX10Lex
namespace Go.Proofs.YtpbfdaijnndilaaGreatDoor.x10
open Go.RowKit Go.Shelf Go.Sort
open Go.Lib hiding intOf

/-- the places of the parts that none is of, one behind the other: each begins right behind the one ahead of it -/
inductive Stk (lo : Nat → Nat) : Nat → List Int → Prop where
  | nil : Stk lo 0 []
  | snoc {j : Nat} {f : List Int} : Stk lo (lo j) f → lo j ≤ j → Stk lo (j + 1) (f ++ [(j : Int)])
theorem Stk.inv {lo : Nat → Nat} {i : Nat} {f : List Int} (h : Stk lo i f) (hf : 1 ≤ f.length) : ∃ (j : Nat) (f' : List Int), f = f' ++ [(j : Int)] ∧ i = j + 1 ∧ Stk lo (lo j) f' ∧ lo j ≤ j := by
  cases h with
  | nil => simp at hf
  | snoc h1 h2 => exact ⟨_, _, rfl, rfl, h1, h2⟩
theorem Stk.zero {lo : Nat → Nat} {x : Nat} (h : Stk lo x []) : x = 0 := by
  generalize e : ([] : List Int) = f at h
  cases h with
  | nil => rfl
  | snoc h1 h2 => simp at e
theorem Stk.same {lo lo2 : Nat → Nat} {i : Nat} {f : List Int} (h : Stk lo i f) (hs : ∀ j, j < i → lo2 j = lo j) : Stk lo2 i f := by
  induction h with
  | nil => exact .nil
  | @snoc j f h1 h2 ih =>
    have e := hs j (Nat.lt_succ_self j)
    have h3 := ih (fun k hk => hs k (by omega))
    rw [← e] at h3 h2
    exact .snoc h3 h2
/-- a part that stands right behind what it is of -/
structure Fit (lo : Nat → Nat) (i : Nat) (p : P10) : Prop where
  z : hnd p.1 = 0 → lo i = i
  o : hnd p.1 = 1 → ∃ a : Nat, i = a + 1 ∧ p.2.1 = (a : Int) ∧ lo i = lo a ∧ lo a ≤ a
  t : hnd p.1 = 2 → ∃ a b : Nat, i = b + 1 ∧ p.2.1 = (a : Int) ∧ p.2.2.1 = (b : Int) ∧ lo b = a + 1 ∧ a < b ∧ lo i = lo a ∧ lo a ≤ a
theorem Fit.same {lo lo2 : Nat → Nat} {i : Nat} {p : P10} (h : Fit lo i p) (hs : ∀ j, j ≤ i → lo2 j = lo j) : Fit lo2 i p := by
  refine ⟨fun q => by rw [hs i (Nat.le_refl _)]; exact h.z q, fun q => ?_, fun q => ?_⟩
  · obtain ⟨a, h1, h2, h3, h4⟩ := h.o q
    exact ⟨a, h1, h2, by rw [hs i (Nat.le_refl _), hs a (by omega)]; exact h3, by rw [hs a (by omega)]; exact h4⟩
  · obtain ⟨a, b, h1, h2, h3, h4, h5, h6, h7⟩ := h.t q
    exact ⟨a, b, h1, h2, h3, by rw [hs b (by omega)]; exact h4, h5, by rw [hs i (Nat.le_refl _), hs a (by omega)]; exact h6, by rw [hs a (by omega)]; exact h7⟩
theorem stk_fit : ∀ (t : List P10) (i : Nat) (f : List Int) (lo : Nat → Nat) (r : List Int), shpS t i f = some r → Stk lo i f → ∃ lo' : Nat → Nat, (∀ j, j < i → lo' j = lo j) ∧ Stk lo' (i + t.length) r ∧ ∀ (k : Nat) (h : k < t.length), Fit lo' (i + k) t[k]
  | [], i, f, lo, r, h, hs => by
    cases h
    exact ⟨lo, fun _ _ => rfl, hs, fun k h => absurd h (Nat.not_lt_zero _)⟩
  | p :: t, i, f, lo, r, h, hs => by
    unfold shpS at h
    split at h
    · cases h
    · rename_i c1
      split at h
      · cases h
      · rename_i c2
        have hh0 : 0 ≤ hnd p.1 := by omega
        have hh1 : hnd p.1 ≤ (f.length : Int) := by omega
        have hO : isO p (f.drop (f.length - (hnd p.1).toNat)) = true := by
          cases q : isO p (f.drop (f.length - (hnd p.1).toNat)) with
          | true => rfl
          | false => exact absurd q c2
        obtain ⟨e1, e2⟩ := isO_eq hO
        have key : ∃ X : Nat, (∀ lo1 : Nat → Nat, (∀ j, j < i → lo1 j = lo j) → lo1 i = X → Fit lo1 i p) ∧ Stk lo X (f.take (f.length - (hnd p.1).toNat)) ∧ X ≤ i := by
          rcases hnd_cases (hnd_op hh0) with ⟨q, -⟩ | ⟨q, -⟩ | ⟨q, -⟩
          · refine ⟨i, fun lo1 h1 h2 => ⟨fun _ => h2, fun z => by omega, fun z => by omega⟩, ?_, Nat.le_refl _⟩
            rw [q, show f.length - (0 : Int).toNat = f.length from rfl, List.take_length]
            exact hs
          · obtain ⟨j, f', hf, hij, h3, h4⟩ := hs.inv (by omega)
            have hd : f.drop (f.length - (hnd p.1).toNat) = [(j : Int)] := by
              rw [q, hf, List.length_append, List.length_singleton, show f'.length + 1 - (1 : Int).toNat = f'.length from rfl, List.drop_left]
            rw [hd] at e1
            refine ⟨lo j, fun lo1 h1 h2 => ⟨fun z => by omega, fun _ => ⟨j, hij, e1, by rw [h2, h1 j (by omega)], by rw [h1 j (by omega)]; exact h4⟩, fun z => by omega⟩, ?_, by omega⟩
            rw [q, hf, List.length_append, List.length_singleton, show f'.length + 1 - (1 : Int).toNat = f'.length from rfl, List.take_left]
            exact h3
          · obtain ⟨j, f', hf, hij, h3, h4⟩ := hs.inv (by omega)
            have hl' : 1 ≤ f'.length := by rw [hf, List.length_append, List.length_singleton] at hh1; omega
            obtain ⟨a, f2, hf2, haj, h5, h6⟩ := h3.inv hl'
            have hd : f.drop (f.length - (hnd p.1).toNat) = [(a : Int), (j : Int)] := by
              rw [q, hf, hf2, List.append_assoc]
              rw [show (f2 ++ ([(a : Int)] ++ [(j : Int)])).length - (2 : Int).toNat = f2.length by rw [List.length_append]; rfl, List.drop_left]
              rfl
            rw [hd] at e1 e2
            refine ⟨lo a, fun lo1 h1 h2 => ⟨fun z => by omega, fun z => by omega, fun _ => ⟨a, j, hij, e1, e2, by rw [h1 j (by omega)]; exact haj, by omega, by rw [h2, h1 a (by omega)], by rw [h1 a (by omega)]; exact h6⟩⟩, ?_, by omega⟩
            rw [q, hf, hf2, List.append_assoc]
            rw [show (f2 ++ ([(a : Int)] ++ [(j : Int)])).length - (2 : Int).toNat = f2.length by rw [List.length_append]; rfl, List.take_left]
            exact h5
        obtain ⟨X, k1, k2, k3⟩ := key
        obtain ⟨lo1, hl1⟩ : ∃ lo1 : Nat → Nat, ∀ j, lo1 j = if j = i then X else lo j := ⟨fun j => if j = i then X else lo j, fun _ => rfl⟩
        have ha : ∀ j, j < i → lo1 j = lo j := fun j hj => by rw [hl1, if_neg (by omega)]
        have hb : lo1 i = X := by rw [hl1, if_pos rfl]
        have hs1 : Stk lo1 (i + 1) (f.take (f.length - (hnd p.1).toNat) ++ [(i : Int)]) := .snoc (by rw [hb]; exact k2.same (fun j hj => ha j (by omega))) (by rw [hb]; exact k3)
        obtain ⟨lo', m1, m2, m3⟩ := stk_fit t (i + 1) _ lo1 r h hs1
        refine ⟨lo', fun j hj => by rw [m1 j (by omega), ha j hj], by rw [List.length_cons, show i + (t.length + 1) = i + 1 + t.length by omega]; exact m2, fun k hk => ?_⟩
        cases k with
        | zero => exact (k1 lo1 ha hb).same (fun j hj => m1 j (by omega))
        | succ k =>
          have := m3 k (by simpa using hk)
          rw [show i + 1 + k = i + (k + 1) by omega] at this
          exact this
/-- a place that a part may be of -/
def Pl (i : Nat) (x : Int) : Prop := x = -1 ∨ ∃ a : Nat, a < i ∧ x = (a : Int)
theorem gtS_pre {acc W : List (List UInt8)} (h : acc <+: W) {x : Int} (hx : Pl acc.length x) : gtS W x = gtS acc x := by
  rcases hx with rfl | ⟨a, ha, rfl⟩
  · rfl
  · obtain ⟨t, rfl⟩ := h
    rw [gtS_at (by rw [List.length_append]; omega), gtS_at ha, List.getElem_append_left ha]
theorem gtN_pre {acc W : List Int} (h : acc <+: W) {x : Int} (hx : Pl acc.length x) : gt W x = gt acc x := by
  rcases hx with rfl | ⟨a, ha, rfl⟩
  · rfl
  · exact gt_pre h ha
theorem wal_at (l : List P10) : ∀ (t : List P10) (acc : List (List UInt8)), (∀ (k : Nat) (h : k < t.length), Pl (acc.length + k) t[k].2.1 ∧ Pl (acc.length + k) t[k].2.2.1) → ∀ (k : Nat) (h : k < t.length), (wal l t acc)[acc.length + k]? = some (wrt l t[k] (gtS (wal l t acc) t[k].2.1) (gtS (wal l t acc) t[k].2.2.1))
  | [], acc, _, k, h => absurd h (Nat.not_lt_zero _)
  | p :: t, acc, hp, k, h => by
    obtain ⟨x, hx⟩ : ∃ x, wrt l p (gtS acc p.2.1) (gtS acc p.2.2.1) = x := ⟨_, rfl⟩
    rw [wal_cons, hx]
    obtain ⟨r, hr⟩ := wal_app l t (acc ++ [x])
    cases k with
    | zero =>
      have h0 : Pl acc.length p.2.1 ∧ Pl acc.length p.2.2.1 := hp 0 h
      have hpre : acc <+: wal l t (acc ++ [x]) := by rw [hr, List.append_assoc]; exact List.prefix_append _ _
      show _ = some (wrt l p (gtS _ p.2.1) (gtS _ p.2.2.1))
      rw [gtS_pre hpre h0.1, gtS_pre hpre h0.2, hx, hr, List.append_assoc, List.getElem?_append_right (Nat.le_add_right _ _)]
      simp
    | succ k =>
      have := wal_at l t (acc ++ [x]) (fun k hk => by
        have := hp (k + 1) (by simpa using hk)
        rw [List.length_append, List.length_singleton, show acc.length + 1 + k = acc.length + (k + 1) by omega]
        exact this) k (by simpa using h)
      rw [List.length_append, List.length_singleton, show acc.length + 1 + k = acc.length + (k + 1) by omega] at this
      exact this
theorem alg_app (l : List P10) : ∀ (t : List P10) (acc : List Int), ∃ r, alg l t acc = acc ++ r
  | [], acc => ⟨[], (List.append_nil _).symm⟩
  | p :: t, acc => by
    obtain ⟨r, hr⟩ := alg_app l t (acc ++ [nst l p (gt acc p.2.1) (gt acc p.2.2.1)])
    exact ⟨[nst l p (gt acc p.2.1) (gt acc p.2.2.1)] ++ r, by rw [alg_cons, hr, List.append_assoc]⟩
theorem alg_at (l : List P10) : ∀ (t : List P10) (acc : List Int), (∀ (k : Nat) (h : k < t.length), Pl (acc.length + k) t[k].2.1 ∧ Pl (acc.length + k) t[k].2.2.1) → ∀ (k : Nat) (h : k < t.length), (alg l t acc)[acc.length + k]? = some (nst l t[k] (gt (alg l t acc) t[k].2.1) (gt (alg l t acc) t[k].2.2.1))
  | [], acc, _, k, h => absurd h (Nat.not_lt_zero _)
  | p :: t, acc, hp, k, h => by
    obtain ⟨x, hx⟩ : ∃ x, nst l p (gt acc p.2.1) (gt acc p.2.2.1) = x := ⟨_, rfl⟩
    rw [alg_cons, hx]
    obtain ⟨r, hr⟩ := alg_app l t (acc ++ [x])
    cases k with
    | zero =>
      have h0 : Pl acc.length p.2.1 ∧ Pl acc.length p.2.2.1 := hp 0 h
      have hpre : acc <+: alg l t (acc ++ [x]) := by rw [hr, List.append_assoc]; exact List.prefix_append _ _
      show _ = some (nst l p (gt _ p.2.1) (gt _ p.2.2.1))
      rw [gtN_pre hpre h0.1, gtN_pre hpre h0.2, hx, hr, List.append_assoc, List.getElem?_append_right (Nat.le_add_right _ _)]
      simp
    | succ k =>
      have := alg_at l t (acc ++ [x]) (fun k hk => by
        have := hp (k + 1) (by simpa using hk)
        rw [List.length_append, List.length_singleton, show acc.length + 1 + k = acc.length + (k + 1) by omega]
        exact this) k (by simpa using h)
      rw [List.length_append, List.length_singleton, show acc.length + 1 + k = acc.length + (k + 1) by omega] at this
      exact this
/-- how the parts of a text stand -/
structure Wl (l : List P10) (lo : Nat → Nat) (T : Nat → List UInt8) (N : Nat → Int) : Prop where
  n : l.length ≤ 100
  g : ∀ (i : Nat) (h : i < l.length), Wg i l[i] ∧ Fit lo i l[i]
  t0 : ∀ (i : Nat) (h : i < l.length), hnd l[i].1 = 0 → T i = wrt l l[i] [] [] ∧ N i = 1
  t1 : ∀ (i : Nat) (h : i < l.length), hnd l[i].1 = 1 → ∃ a : Nat, i = a + 1 ∧ T i = wrt l l[i] (T a) [] ∧ N i = nst l l[i] (N a) 0
  t2 : ∀ (i : Nat) (h : i < l.length), hnd l[i].1 = 2 → ∃ a b : Nat, i = b + 1 ∧ lo b = a + 1 ∧ T i = wrt l l[i] (T a) (T b) ∧ N i = nst l l[i] (N a) (N b)
  w : ∀ (i : Nat), i < l.length → T i = gtS (wal l l []) (i : Int) ∧ N i = gt (alg l l []) (i : Int)
theorem wl_of {l : List P10} (h : shp l = true) : ∃ lo T N, Wl l lo T N ∧ lo (l.length - 1) = 0 := by
  obtain ⟨h1, h2, hw⟩ := shp_wg h
  have hsh := h
  unfold shp at hsh
  rw [Bool.and_eq_true] at hsh
  rcases q : shpS l 0 [] with _ | r
  · rw [q] at hsh; cases hsh.2
  · rw [q] at hsh
    have hr1 : r.length = 1 := by simpa [shpF] using hsh.2
    obtain ⟨lo, -, m2, m3⟩ := stk_fit l 0 [] (fun _ => 0) r q .nil
    rw [Nat.zero_add] at m2
    have pl : ∀ (k : Nat) (h : k < l.length), Pl (([] : List Int).length + k) l[k].2.1 ∧ Pl (([] : List Int).length + k) l[k].2.2.1 := fun k hk => by
      have g := hw k hk
      rw [List.length_nil, Nat.zero_add]
      rcases hnd_cases (hnd_op g.h) with ⟨q, -⟩ | ⟨q, -⟩ | ⟨q, -⟩
      · exact ⟨.inl (g.z q).1, .inl (g.z q).2⟩
      · exact ⟨.inr (g.o q).1, .inl (g.o q).2⟩
      · exact ⟨.inr (g.t q).1, .inr (g.t q).2⟩
    have hWl := wal_length l l []
    have hW : ∀ (i : Nat) (hi : i < l.length), gtS (wal l l []) (i : Int) = wrt l l[i] (gtS (wal l l []) l[i].2.1) (gtS (wal l l []) l[i].2.2.1) := fun i hi => by
      have := wal_at l l [] pl i hi
      rw [List.length_nil, Nat.zero_add] at this
      unfold gtS at this ⊢
      rw [if_pos (Int.natCast_nonneg i), Int.toNat_natCast, this]
      rfl
    have hN : ∀ (i : Nat) (hi : i < l.length), gt (alg l l []) (i : Int) = nst l l[i] (gt (alg l l []) l[i].2.1) (gt (alg l l []) l[i].2.2.1) := fun i hi => by
      have := alg_at l l [] pl i hi
      rw [List.length_nil, Nat.zero_add] at this
      unfold gt at this ⊢
      rw [if_pos (Int.natCast_nonneg i), Int.toNat_natCast, this]
      rfl
    have hF : ∀ (i : Nat) (hi : i < l.length), Fit lo i l[i] := fun i hi => by have := m3 i hi; rwa [Nat.zero_add] at this
    refine ⟨lo, fun i => gtS (wal l l []) (i : Int), fun i => gt (alg l l []) (i : Int), ⟨h1, fun i hi => ⟨hw i hi, hF i hi⟩, fun i hi q => ?_, fun i hi q => ?_, fun i hi q => ?_, fun i hi => ⟨rfl, rfl⟩⟩, ?_⟩
    · have g := (hw i hi).z q
      refine ⟨?_, ?_⟩
      · show gtS (wal l l []) (i : Int) = _
        rw [hW i hi, g.1, g.2]; rfl
      · show gt (alg l l []) (i : Int) = _
        rw [hN i hi]; exact if_pos q
    · obtain ⟨a, k1, k2, -, -⟩ := (hF i hi).o q
      have g := (hw i hi).o q
      refine ⟨a, k1, ?_, ?_⟩
      · show gtS (wal l l []) (i : Int) = _
        rw [hW i hi, k2, g.2]; rfl
      · show gt (alg l l []) (i : Int) = _
        rw [hN i hi, k2, g.2]; rfl
    · obtain ⟨a, b, k1, k2, k3, k4, -⟩ := (hF i hi).t q
      refine ⟨a, b, k1, k4, ?_, ?_⟩
      · show gtS (wal l l []) (i : Int) = _
        rw [hW i hi, k2, k3]
      · show gt (alg l l []) (i : Int) = _
        rw [hN i hi, k2, k3]
    · obtain ⟨j, f', e1, e2, e3, e4⟩ := m2.inv (by omega)
      have hf' : f' = [] := by
        rw [e1, List.length_append, List.length_singleton] at hr1
        exact List.eq_nil_of_length_eq_zero (by omega)
      subst hf'
      rw [e2, Nat.add_sub_cancel]
      exact e3.zero
end Go.Proofs.YtpbfdaijnndilaaGreatDoor.x10
namespace Go.Proofs.YtpbfdaijnndilaaGreatDoor.x10
open Go.RowKit Go.Shelf Go.Sort
open Go.Lib hiding intOf

def RO (t : List UInt8) (lv : Int) (st st' : Rs) : Prop := ∃ n0, ∀ n, n0 ≤ n → opds t n lv st = .ok st'
def RM (t : List UInt8) (lv a : Int) (st st' : Rs) : Prop := ∃ n0, ∀ n, n0 ≤ n → more t n lv a st = .ok st'
def RD (t : List UInt8) (st st' : Rs) : Prop := ∃ n0, ∀ n, n0 ≤ n → opd t n st = .ok st'
def RI (t : List UInt8) (st st' : Rs) : Prop := ∃ n0, ∀ n, n0 ≤ n → inBr t n st = .ok st'
theorem suc {n0 n : Nat} (h : n0 + 1 ≤ n) : ∃ m, n = m + 1 ∧ n0 ≤ m := ⟨n - 1, by omega, by omega⟩
variable {t : List UInt8}
theorem ro_of {lv : Int} {st st1 st' : Rs} (h : RD t st st1) (h2 : RM t lv (lasP st1) st1 st') : RO t lv st st' := by
  obtain ⟨n1, h⟩ := h
  obtain ⟨n2, h2⟩ := h2
  refine ⟨n1 + n2 + 1, fun n hn => ?_⟩
  obtain ⟨m, rfl, hm⟩ := suc hn
  rw [opds, h m (by omega), bind_okE, h2 m (by omega)]
theorem rm_stop {lv a : Int} {st : Rs} (h : twoH st.now.s = 0 ∨ lvl (twoH st.now.s) < lv) : RM t lv a st st := by
  refine ⟨1, fun n hn => ?_⟩
  obtain ⟨m, rfl, hm⟩ := suc hn
  rw [more]
  try simp only
  rw [if_pos h]
theorem rm_step {lv a : Int} {op : Nat} {k : Tk} {e : Nat} {st st2 st3 st' : Rs} (ho : twoH st.now.s = op) (h0 : op ≠ 0) (hl : lv ≤ lvl op) (ha : TA t st.beh k e) (h1 : RO t (lvl op + 1) { st with now := k, beh := e } st2) (h2 : putP ((op : Int), a, lasP st2, v0) st2 = .ok st3) (h3 : RM t lv (lasP st3) st3 st') : RM t lv a st st' := by
  obtain ⟨n1, h1⟩ := h1
  obtain ⟨n3, h3⟩ := h3
  refine ⟨n1 + n3 + 1, fun n hn => ?_⟩
  obtain ⟨m, rfl, hm⟩ := suc hn
  rw [more]
  try simp only
  rw [ho, if_neg (by rintro (q | q); exact h0 q; omega), ha st rfl, bind_okE, h1 m (by omega), bind_okE, h2, bind_okE, h3 m (by omega)]
theorem rd_leaf {st : Rs} {k : Tk} {e : Nat} (hn : st.nest ≠ 20) (hk : st.now.kind = 1 ∨ st.now.kind = 2) (ha : TA t st.beh k e) (hp : st.parts.length ≠ 100) : RD t st ⟨k, e, st.nest, st.parts ++ [(1, -1, -1, st.now.v)]⟩ := by
  refine ⟨1, fun n hm => ?_⟩
  obtain ⟨m, rfl, hm⟩ := suc hm
  rw [opd, if_neg hn]
  simp only
  rw [if_pos hk]
  unfold leaf
  rw [ha { st with nest := st.nest + 1 } rfl, bind_okE]
  unfold putP
  simp only
  rw [if_neg hp, bind_okE]
  rfl
theorem rd_true {st : Rs} {k : Tk} {e : Nat} (hn : st.nest ≠ 20) (hk : st.now.kind = 3) (b : Bool) (hs : st.now.s = if b then [116, 114, 117, 101] else [102, 97, 108, 115, 101]) (ha : TA t st.beh k e) (hp : st.parts.length ≠ 100) : RD t st ⟨k, e, st.nest, st.parts ++ [(1, -1, -1, truV b)]⟩ := by
  refine ⟨2, fun n0 hn0 => ?_⟩
  obtain ⟨n, rfl, hn1⟩ := suc hn0
  obtain ⟨m, rfl, hm⟩ := suc hn1
  rw [opd, if_neg hn]
  simp only
  rw [if_neg (by omega), if_pos hk, aftW, hs]
  have e1 : ¬ ((if b then [116, 114, 117, 101] else [102, 97, 108, 115, 101]) = ([97, 110, 100] : List UInt8) ∨ (if b then [116, 114, 117, 101] else [102, 97, 108, 115, 101]) = ([111, 114] : List UInt8)) := by cases b <;> decide
  have e2 : ((if b then [116, 114, 117, 101] else [102, 97, 108, 115, 101]) = ([116, 114, 117, 101] : List UInt8) ∨ (if b then [116, 114, 117, 101] else [102, 97, 108, 115, 101]) = ([102, 97, 108, 115, 101] : List UInt8)) := by cases b <;> decide
  have e3 : ((if b then [116, 114, 117, 101] else [102, 97, 108, 115, 101]) == ([116, 114, 117, 101] : List UInt8)) = b := by cases b <;> rfl
  rw [if_neg e1, if_pos e2, e3]
  unfold leaf
  rw [ha { st with nest := st.nest + 1 } rfl, bind_okE]
  unfold putP
  simp only
  rw [if_neg hp, bind_okE]
  rfl
theorem rd_name {st : Rs} {k : Tk} {e : Nat} (hn : st.nest ≠ 20) (hk : st.now.kind = 3) (hs : namV st.now.s = true) (ha : TA t st.beh k e) (hp : st.parts.length ≠ 100) : RD t st ⟨k, e, st.nest, st.parts ++ [(2, -1, -1, (3, 0, st.now.s))]⟩ := by
  refine ⟨2, fun n0 hn0 => ?_⟩
  obtain ⟨n, rfl, hn1⟩ := suc hn0
  obtain ⟨m, rfl, hm⟩ := suc hn1
  have hw : wds.contains st.now.s = false := by
    unfold namV at hs
    simp only [Bool.and_eq_true, Bool.not_eq_true'] at hs
    exact hs.1.1.1
  have ne : ∀ x ∈ wds, st.now.s ≠ x := fun x hx e => by
    rw [e, List.contains_iff_mem.2 hx] at hw
    cases hw
  rw [opd, if_neg hn]
  simp only
  rw [if_neg (by omega), if_pos hk, aftW]
  rw [if_neg (by rintro (q | q); exact ne _ (by simp [wds]) q; exact ne _ (by simp [wds]) q), if_neg (by rintro (q | q); exact ne _ (by simp [wds]) q; exact ne _ (by simp [wds]) q), if_neg (ne _ (by simp [wds])), if_neg (ne _ (by simp [wds]))]
  unfold leaf
  rw [ha { st with nest := st.nest + 1 } rfl, bind_okE]
  unfold putP
  simp only
  rw [if_neg hp, bind_okE]
  rfl
theorem rd_not {st st2 st3 : Rs} {k : Tk} {e : Nat} (hn : st.nest ≠ 20) (hk : st.now.kind = 3) (hs : st.now.s = [110, 111, 116]) (ha : TA t st.beh k e) (h1 : RD t ⟨k, e, st.nest + 1, st.parts⟩ st2) (h2 : putP (4, lasP st2, -1, v0) st2 = .ok st3) : RD t st { st3 with nest := st3.nest - 1 } := by
  obtain ⟨n1, h1⟩ := h1
  refine ⟨n1 + 2, fun n0 hn0 => ?_⟩
  obtain ⟨n, rfl, hn1⟩ := suc hn0
  obtain ⟨m, rfl, hm⟩ := suc hn1
  rw [opd, if_neg hn]
  simp only
  rw [if_neg (by omega), if_pos hk, aftW, hs, if_neg (by decide), if_neg (by decide), if_pos rfl, ha { st with nest := st.nest + 1 } rfl, bind_okE, h1 m (by omega), bind_okE, h2, bind_okE]
theorem rd_len {st st2 st3 : Rs} {k : Tk} {e : Nat} (hn : st.nest ≠ 20) (hk : st.now.kind = 3) (hs : st.now.s = [108, 101, 110]) (ha : TA t st.beh k e) (h1 : RI t ⟨k, e, st.nest + 1, st.parts⟩ st2) (h2 : putP (5, lasP st2, -1, v0) st2 = .ok st3) : RD t st { st3 with nest := st3.nest - 1 } := by
  obtain ⟨n1, h1⟩ := h1
  refine ⟨n1 + 2, fun n0 hn0 => ?_⟩
  obtain ⟨n, rfl, hn1⟩ := suc hn0
  obtain ⟨m, rfl, hm⟩ := suc hn1
  rw [opd, if_neg hn]
  simp only
  rw [if_neg (by omega), if_pos hk, aftW, hs, if_neg (by decide), if_neg (by decide), if_neg (by decide), if_pos rfl, ha { st with nest := st.nest + 1 } rfl, bind_okE, h1 m (by omega), bind_okE, h2, bind_okE]
theorem rd_neg {st st2 st3 : Rs} {k : Tk} {e : Nat} (hn : st.nest ≠ 20) (hk : st.now.kind = 4) (hs : st.now.s = [45]) (ha : TA t st.beh k e) (h1 : RD t ⟨k, e, st.nest + 1, st.parts⟩ st2) (h2 : putP (3, lasP st2, -1, v0) st2 = .ok st3) : RD t st { st3 with nest := st3.nest - 1 } := by
  obtain ⟨n1, h1⟩ := h1
  refine ⟨n1 + 2, fun n0 hn0 => ?_⟩
  obtain ⟨n, rfl, hn1⟩ := suc hn0
  obtain ⟨m, rfl, hm⟩ := suc hn1
  rw [opd, if_neg hn]
  simp only
  rw [if_neg (by omega), if_neg (by omega), if_pos hk, aftM, hs, if_neg (by decide), if_pos rfl, ha { st with nest := st.nest + 1 } rfl, bind_okE, h1 m (by omega), bind_okE, h2, bind_okE]
theorem rd_brk {st st2 : Rs} (hn : st.nest ≠ 20) (hk : st.now.kind = 4) (hs : st.now.s = [40]) (h1 : RI t { st with nest := st.nest + 1 } st2) : RD t st { st2 with nest := st2.nest - 1 } := by
  obtain ⟨n1, h1⟩ := h1
  refine ⟨n1 + 2, fun n0 hn0 => ?_⟩
  obtain ⟨n, rfl, hn1⟩ := suc hn0
  obtain ⟨m, rfl, hm⟩ := suc hn1
  rw [opd, if_neg hn]
  simp only
  rw [if_neg (by omega), if_neg (by omega), if_pos hk, aftM, hs, if_pos rfl, h1 m (by omega), bind_okE]
theorem ri_of {st st2 : Rs} {k k2 : Tk} {e e2 : Nat} (hs : st.now.s = [40]) (ha : TA t st.beh k e) (h1 : RO t 1 { st with now := k, beh := e } st2) (hs2 : st2.now.s = [41]) (ha2 : TA t st2.beh k2 e2) : RI t st { st2 with now := k2, beh := e2 } := by
  obtain ⟨n1, h1⟩ := h1
  refine ⟨n1 + 1, fun n hm => ?_⟩
  obtain ⟨m, rfl, hm⟩ := suc hm
  rw [inBr]
  have m1 : must t [40] st = .ok { st with now := k, beh := e } := by unfold must; rw [if_pos hs]; exact ha st rfl
  have m2 : must t [41] st2 = .ok { st2 with now := k2, beh := e2 } := by unfold must; rw [if_pos hs2]; exact ha2 st2 rfl
  rw [m1, bind_okE, h1 m (by omega), bind_okE, m2]
theorem put_take {l : List P10} {k : Tk} {e d i : Nat} (hi : i < l.length) (h1 : l.length ≤ 100) {p : P10} (hp : p = l[i]) : putP p ⟨k, e, d, l.take i⟩ = .ok ⟨k, e, d, l.take (i + 1)⟩ := by
  subst hp
  unfold putP
  simp only
  rw [List.length_take, if_neg (by omega), List.take_succ_eq_append_getElem hi]
theorem las_take {l : List P10} {k : Tk} {e d i : Nat} (hi : i < l.length) : lasP ⟨k, e, d, l.take (i + 1)⟩ = (i : Int) := by
  unfold lasP
  simp only
  rw [List.length_take]
  omega
theorem lvI_rng {o : Int} (h : 1 ≤ o ∧ o ≤ 18) : 1 ≤ lvI o ∧ lvI o ≤ 6 ∧ (o ≤ 5 → lvI o = 6) ∧ (6 ≤ o → lvI o ≤ 5) := by
  rcases (by omega : o = 1 ∨ o = 2 ∨ o = 3 ∨ o = 4 ∨ o = 5 ∨ o = 6 ∨ o = 7 ∨ o = 8 ∨ o = 9 ∨ o = 10 ∨ o = 11 ∨ o = 12 ∨ o = 13 ∨ o = 14 ∨ o = 15 ∨ o = 16 ∨ o = 17 ∨ o = 18) with rfl | rfl | rfl | rfl | rfl | rfl | rfl | rfl | rfl | rfl | rfl | rfl | rfl | rfl | rfl | rfl | rfl | rfl <;> decide
theorem opAt_get {l : List P10} {i : Nat} (hi : i < l.length) : opAt l (i : Int) = l[i].1 := by
  unfold opAt
  rw [Int.toNat_natCast, List.getElem?_eq_getElem hi]
  rfl
/-- the part at a place, written there, is read as it stands -/
def Cl (t : List UInt8) (l : List P10) (lo : Nat → Nat) (T : Nat → List UInt8) (N : Nat → Int) (i : Nat) : Prop :=
  1 ≤ N i ∧ ∀ b r k2 e2, t.drop b = T i ++ r → Bk r → TA t (b + (T i).length) k2 e2 → (twoH k2.s = 0 ∨ lvl (twoH k2.s) ≤ lvI (opAt l (i : Int))) →
    ∃ k e, TA t b k e ∧ (∀ (d : Nat) (lv : Int) (st' : Rs), (d : Int) + N i ≤ 20 → lv ≤ lvI (opAt l (i : Int)) → RM t lv (i : Int) ⟨k2, e2, d, l.take (i + 1)⟩ st' → RO t lv ⟨k, e, d, l.take (lo i)⟩ st') ∧
      (lvI (opAt l (i : Int)) = 6 → ∀ d : Nat, (d : Int) + N i ≤ 20 → RD t ⟨k, e, d, l.take (lo i)⟩ ⟨k2, e2, d, l.take (i + 1)⟩)
variable {l : List P10} {lo : Nat → Nat} {T : Nat → List UInt8} {N : Nat → Int}
theorem cl_six {i : Nat} (hi : i < l.length) {k k2 : Tk} {e e2 : Nat} (_h6 : lvI (opAt l (i : Int)) = 6) (h : ∀ d : Nat, (d : Int) + N i ≤ 20 → RD t ⟨k, e, d, l.take (lo i)⟩ ⟨k2, e2, d, l.take (i + 1)⟩) : (∀ (d : Nat) (lv : Int) (st' : Rs), (d : Int) + N i ≤ 20 → lv ≤ lvI (opAt l (i : Int)) → RM t lv (i : Int) ⟨k2, e2, d, l.take (i + 1)⟩ st' → RO t lv ⟨k, e, d, l.take (lo i)⟩ st') ∧
      (lvI (opAt l (i : Int)) = 6 → ∀ d : Nat, (d : Int) + N i ≤ 20 → RD t ⟨k, e, d, l.take (lo i)⟩ ⟨k2, e2, d, l.take (i + 1)⟩) :=
  ⟨fun d lv st' hd _ hm => ro_of (h d hd) (by rw [las_take hi]; exact hm), fun _ => h⟩
/-- in brackets -/
theorem cl_brk {a : Nat} (ha : a < l.length) (hop : 1 ≤ l[a].1 ∧ l[a].1 ≤ 18) (hc : Cl t l lo T N a) {b : Nat} {r : List UInt8} {k2 : Tk} {e2 : Nat} (hd : t.drop b = brk (T a) ++ r) (hr : Bk r) (h2 : TA t (b + (brk (T a)).length) k2 e2) :
    TA t b ⟨4, b, [40], v0⟩ (b + 1) ∧ ∀ d : Nat, (d : Int) + N a ≤ 20 → RI t ⟨⟨4, b, [40], v0⟩, b + 1, d, l.take (lo a)⟩ ⟨k2, e2, d, l.take (a + 1)⟩ := by
  have hd0 : t.drop b = [40] ++ (32 :: (T a ++ (32 :: 41 :: r))) := by rw [hd]; unfold brk; simp
  have hd1 : t.drop (b + 1) = 32 :: (T a ++ (32 :: 41 :: r)) := by rw [← List.drop_drop, hd0]; rfl
  have hd2 : t.drop (b + 2) = T a ++ (32 :: 41 :: r) := by rw [← List.drop_drop, hd0]; rfl
  have hd3 : t.drop (b + 2 + (T a).length) = 32 :: 41 :: r := by rw [← List.drop_drop, hd2, List.drop_left]
  have hd4 : t.drop (b + 2 + (T a).length + 1) = [41] ++ r := by rw [← List.drop_drop, hd3]; rfl
  have t4 : TA t (b + 2 + (T a).length + 1) ⟨4, b + 2 + (T a).length + 1, [41], v0⟩ (b + 2 + (T a).length + 1 + 1) := ta_of hd4 ⟨_, _, rfl, rfl⟩ hr rfl
  have t3 := ta_skip hd3 t4
  obtain ⟨k, e, q1, q2, -⟩ := hc.2 (b + 2) (32 :: 41 :: r) _ _ hd2 (.inr ⟨_, rfl⟩) t3 (.inl rfl)
  refine ⟨ta_of hd0 ⟨_, _, rfl, rfl⟩ (.inr ⟨_, rfl⟩) rfl, fun d hdN => ?_⟩
  have hl := lvI_rng hop
  have hro := q2 d 1 _ hdN (by rw [opAt_get ha]; exact hl.1) (rm_stop (st := ⟨⟨4, b + 2 + (T a).length + 1, [41], v0⟩, b + 2 + (T a).length + 1 + 1, d, l.take (a + 1)⟩) (.inl rfl))
  have he : b + (brk (T a)).length = b + 2 + (T a).length + 1 + 1 := by rw [brk_len]; omega
  rw [he] at h2
  exact ri_of (st := ⟨⟨4, b, [40], v0⟩, b + 1, d, l.take (lo a)⟩) (st2 := ⟨⟨4, b + 2 + (T a).length + 1, [41], v0⟩, b + 2 + (T a).length + 1 + 1, d, l.take (a + 1)⟩) rfl (ta_skip hd1 q1) hro rfl h2
/-- an operand, in brackets or not -/
theorem cl_opd {a : Nat} (ha : a < l.length) (hop : 1 ≤ l[a].1 ∧ l[a].1 ≤ 18) (hc : Cl t l lo T N a) (br : Bool) {L : Int} (hL : br = false → L ≤ lvI (opAt l (a : Int))) {b : Nat} {r : List UInt8} {k2 : Tk} {e2 : Nat} (hd : t.drop b = (if br = true then brk (T a) else T a) ++ r) (hr : Bk r) (h2 : TA t (b + (if br = true then brk (T a) else T a).length) k2 e2) (hn : twoH k2.s = 0 ∨ lvl (twoH k2.s) ≤ L) :
    ∃ k e, TA t b k e ∧ (∀ (d : Nat) (lv : Int) (st' : Rs), (d : Int) + (if br = true then N a + 1 else N a) ≤ 20 → lv ≤ L → RM t lv (a : Int) ⟨k2, e2, d, l.take (a + 1)⟩ st' → RO t lv ⟨k, e, d, l.take (lo a)⟩ st') ∧
      (L = 6 → ∀ d : Nat, (d : Int) + (if br = true then N a + 1 else N a) ≤ 20 → RD t ⟨k, e, d, l.take (lo a)⟩ ⟨k2, e2, d, l.take (a + 1)⟩) := by
  cases br with
  | true =>
    simp only [if_true] at hd h2 ⊢
    obtain ⟨q1, q2⟩ := cl_brk ha hop hc hd hr h2
    have hN := hc.1
    have hrd : ∀ d : Nat, (d : Int) + (N a + 1) ≤ 20 → RD t ⟨⟨4, b, [40], v0⟩, b + 1, d, l.take (lo a)⟩ ⟨k2, e2, d, l.take (a + 1)⟩ := fun d hdN =>
      rd_brk (st := ⟨⟨4, b, [40], v0⟩, b + 1, d, l.take (lo a)⟩) (st2 := ⟨k2, e2, d + 1, l.take (a + 1)⟩) (by show d ≠ 20; omega) rfl rfl (q2 (d + 1) (by omega))
    exact ⟨_, _, q1, fun d lv st' hdN _ hm => ro_of (hrd d hdN) (by rw [las_take ha]; exact hm), fun _ => hrd⟩
  | false =>
    simp only [Bool.false_eq_true, if_false] at hd h2 ⊢
    have hl := hL rfl
    obtain ⟨k, e, q1, q2, q3⟩ := hc.2 b r k2 e2 hd hr h2 (hn.imp id (fun q => by omega))
    have h6 := (lvI_rng hop).2.1
    exact ⟨k, e, q1, fun d lv st' hdN hlv hm => q2 d lv st' hdN (by omega) hm, fun hL6 => q3 (by rw [opAt_get ha] at hl ⊢; omega)⟩
end Go.Proofs.YtpbfdaijnndilaaGreatDoor.x10
namespace Go.Proofs.YtpbfdaijnndilaaGreatDoor.x10
open Go.RowKit Go.Shelf Go.Sort
open Go.Lib hiding intOf

variable {t : List UInt8} {l : List P10} {lo : Nat → Nat} {T : Nat → List UInt8} {N : Nat → Int}
/-- a part of no other one -/
theorem cl_leaf {i : Nat} (hi : i < l.length) (_hlen : l.length ≤ 100) (hN : N i = 1) (hlo : lo i = i) (hop : l[i].1 ≤ 2 ∧ 1 ≤ l[i].1) (tk : Nat → Tk) (htok : ∀ b, tok b (T i) = .ok (tk b, (T i).length)) (hne : ∃ c u, T i = c :: u ∧ kB c = false)
    (hrd : ∀ b k2 e2 d, TA t (b + (T i).length) k2 e2 → d ≠ 20 → RD t ⟨tk b, b + (T i).length, d, l.take i⟩ ⟨k2, e2, d, l.take i ++ [l[i]]⟩) : Cl t l lo T N i := by
  refine ⟨by omega, fun b r k2 e2 hd hr h2 hn => ?_⟩
  have h6 : lvI (opAt l (i : Int)) = 6 := by rw [opAt_get hi]; exact (lvI_rng ⟨hop.2, by omega⟩).2.2.1 (by omega)
  refine ⟨tk b, b + (T i).length, ta_of hd hne hr (htok b), cl_six hi h6 fun d hdN => ?_⟩
  rw [hlo, List.take_succ_eq_append_getElem hi]
  exact hrd b k2 e2 d h2 (by omega)
theorem len_take {i : Nat} (hi : i < l.length) (h1 : l.length ≤ 100) : (l.take i).length ≠ 100 := by rw [List.length_take]; omega
theorem cl_zero (W : Wl l lo T N) (hk : ∀ p ∈ l, Vk p.2.2.2) {i : Nat} (hi : i < l.length) (hh : hnd l[i].1 = 0) : Cl t l lo T N i := by
  obtain ⟨g, f⟩ := W.g i hi
  obtain ⟨e1, e2⟩ := W.t0 i hi hh
  have hz := g.z hh
  have hop : 1 ≤ l[i].1 ∧ l[i].1 ≤ 2 := by
    have h1 := hnd_op g.h
    rcases hnd_cases h1 with ⟨-, q⟩ | ⟨q, -⟩ | ⟨q, -⟩
    · exact ⟨h1.1, q⟩
    · omega
    · omega
  have hv := g.v
  have hkv := hk _ (List.getElem_mem hi)
  have hlo := f.z hh
  obtain ⟨p, hp⟩ : ∃ p, l[i] = p := ⟨_, rfl⟩
  rw [hp] at e1 hz hop hv hkv
  obtain ⟨o, A, B, v⟩ := p
  obtain ⟨rfl, rfl⟩ : A = -1 ∧ B = -1 := hz
  simp only at hop hv hkv e1
  rcases (by omega : o = 1 ∨ o = 2) with rfl | rfl
  · have eT : T i = shw v := by rw [e1]; exact if_pos rfl
    have hv2 : mayV v = true ∧ 0 ≤ v.2.1 := by
      unfold hol at hv
      rw [if_pos rfl, Bool.and_eq_true, decide_eq_true_eq] at hv
      exact hv
    obtain ⟨hm, hv0⟩ := hv2
    have hm2 := hm
    unfold mayV at hm2
    obtain ⟨v1, v2, v3⟩ := v
    by_cases h3 : v1 = 3
    · subst h3
      rw [if_pos rfl, decide_eq_true_eq] at hm2
      simp only at hm2 hv0
      obtain ⟨rfl, -⟩ := hm2
      have eQ : T i = quo v3 := by rw [eT]; unfold shw; rw [hm, if_pos rfl, if_pos rfl]
      refine cl_leaf hi W.n e2 hlo (by rw [hp]; exact ⟨by omega, by omega⟩) (fun b => ⟨2, b, [], (3, 0, v3)⟩) (fun b => by rw [eQ]; exact tok_quo b v3) ⟨34, v3.flatMap qc ++ [34], eQ, rfl⟩ (fun b k2 e2 d ht hd => ?_)
      rw [hp]
      exact rd_leaf (st := ⟨⟨2, b, [], (3, 0, v3)⟩, b + (T i).length, d, l.take i⟩) hd (.inr rfl) ht (len_take hi W.n)
    · rw [if_neg h3, decide_eq_true_eq] at hm2
      simp only at hm2 hv0
      obtain ⟨rfl, hm3⟩ := hm2
      rcases hm3 with rfl | ⟨rfl, hb⟩
      · have eQ : T i = decDigits v2.toNat := by
          rw [eT]; unfold shw
          rw [hm, if_pos rfl, if_neg (by show ¬ (1 : Int) = 3; decide), if_neg (by show ¬ (1 : Int) = 2; decide)]
          show itoa v2 = _
          unfold itoa
          rw [if_neg (by omega)]
        have hb2 : v2.toNat ≤ 9223372036854775807 := by
          have h5 : v2 ≤ 9223372036854775807 := hkv.2.1.2
          omega
        have hcast : ((v2.toNat : Nat) : Int) = v2 := by omega
        obtain ⟨c, u, hcu, -⟩ := dec_head v2.toNat
        have hck : kB c = false := by
          have := dec_kD v2.toNat c (by rw [hcu]; exact List.mem_cons_self)
          unfold kD at this
          unfold kB
          simp at this ⊢
          omega
        refine cl_leaf hi W.n e2 hlo (by rw [hp]; exact ⟨by omega, by omega⟩) (fun b => ⟨1, b, [], (1, v2, [])⟩) (fun b => by rw [eQ, tok_num hb2, hcast]) ⟨c, u, by rw [eQ, hcu], hck⟩ (fun b k2 e2 d ht hd => ?_)
        rw [hp]
        exact rd_leaf (st := ⟨⟨1, b, [], (1, v2, [])⟩, b + (T i).length, d, l.take i⟩) hd (.inl rfl) ht (len_take hi W.n)
      · obtain ⟨q, hq, hqv⟩ : ∃ q : Bool, v2 = (if q then 1 else 0) ∧ shw (2, v2, []) = if q then [116, 114, 117, 101] else [102, 97, 108, 115, 101] := by
          rcases hb with rfl | rfl
          · exact ⟨false, rfl, rfl⟩
          · exact ⟨true, rfl, rfl⟩
        have eQ : T i = if q then [116, 114, 117, 101] else [102, 97, 108, 115, 101] := by rw [eT, hqv]
        refine cl_leaf hi W.n e2 hlo (by rw [hp]; exact ⟨by omega, by omega⟩) (fun b => ⟨3, b, T i, v0⟩) (fun b => by rw [eQ]; cases q <;> rfl) (by rw [eQ]; cases q <;> exact ⟨_, _, rfl, rfl⟩) (fun b k2 e2 d ht hd => ?_)
        rw [hp, hq]
        exact rd_true (st := ⟨⟨3, b, T i, v0⟩, b + (T i).length, d, l.take i⟩) hd rfl q eQ ht (len_take hi W.n)
  · have eT : T i = v.2.2 := by rw [e1]; unfold wrt; rw [if_neg (by show ¬ (2 : Int) = 1; decide), if_pos rfl]
    have hv2 : namV v.2.2 = true ∧ v = (3, 0, v.2.2) := by
      unfold hol at hv
      rw [if_neg (by show ¬ (2 : Int) = 1; decide), if_pos rfl, Bool.and_eq_true, beq_iff_eq] at hv
      exact hv
    obtain ⟨hnm, hv3⟩ := hv2
    have htk := fun b => nam_tok (b := b) hnm
    refine cl_leaf hi W.n e2 hlo (by rw [hp]; exact ⟨by omega, by omega⟩) (fun b => ⟨3, b, v.2.2, v0⟩) (fun b => by rw [eT]; exact (htk b).1) (by rw [eT]; exact (htk 0).2) (fun b k2 e2 d ht hd => ?_)
    rw [hp, hv3]
    exact rd_name (st := ⟨⟨3, b, v.2.2, v0⟩, b + (T i).length, d, l.take i⟩) hd rfl hnm ht (len_take hi W.n)
theorem cl_one (W : Wl l lo T N) {i : Nat} (hi : i < l.length) (hh : hnd l[i].1 = 1) (ih : ∀ a, a < i → Cl t l lo T N a) : Cl t l lo T N i := by
  obtain ⟨g, f⟩ := W.g i hi
  obtain ⟨a, hia, eT, eN⟩ := W.t1 i hi hh
  obtain ⟨a', hia', hA, hlo, hle⟩ := f.o hh
  obtain rfl : a' = a := by omega
  have hal : a' < l.length := by omega
  have hB := (g.o hh).2
  have hv := g.v
  have hop1 := hnd_op g.h
  have hopa := hnd_op ((W.g a' hal).1).h
  have hca := ih a' (by omega)
  have hop : 3 ≤ l[i].1 ∧ l[i].1 ≤ 5 := by
    rcases hnd_cases hop1 with ⟨q, -⟩ | ⟨-, q⟩ | ⟨q, -⟩
    · omega
    · exact q
    · omega
  obtain ⟨p, hp⟩ : ∃ p, l[i] = p := ⟨_, rfl⟩
  rw [hp] at eT eN hA hB hv hop hh
  obtain ⟨o, A, B, v⟩ := p
  simp only at eT eN hA hB hv hop hh
  subst hA hB
  obtain rfl : v = v0 := by
    unfold hol at hv
    rw [if_neg (by show ¬ o = 1; omega), if_neg (by show ¬ o = 2; omega), beq_iff_eq] at hv
    exact hv
  obtain ⟨m, rfl⟩ : ∃ m : Nat, o = (m : Int) := ⟨o.toNat, by omega⟩
  obtain ⟨X, hX⟩ : ∃ X, (if (m : Int) = 5 ∨ lbr l ((m : Int), (a' : Int), -1, v0) = true then brk (T a') else T a') = X := ⟨_, rfl⟩
  have eT2 : T i = sgT (m : Int) ++ (32 :: X) := by
    rw [eT]
    unfold wrt
    rw [if_neg (by show ¬ (m : Int) = 1; omega), if_neg (by show ¬ (m : Int) = 2; omega), if_pos (by show (-1 : Int) < 0; omega)]
    simp only
    rw [hX]
    simp
  have hlb : lbr l ((m : Int), (a' : Int), -1, v0) = decide (lvI (opAt l (a' : Int)) < 6) := by
    unfold lbr
    simp only
    rw [(lvI_rng (o := (m : Int)) ⟨by omega, by omega⟩).2.2.1 (by omega)]
  have h6i : lvI (opAt l (i : Int)) = 6 := by rw [opAt_get hi, hp]; exact (lvI_rng ⟨by show 1 ≤ (m : Int); omega, by show (m : Int) ≤ 18; omega⟩).2.2.1 (by show (m : Int) ≤ 5; omega)
  have hNa := hca.1
  have hNi : N i = (if (m : Int) ≠ 5 ∧ lbr l ((m : Int), (a' : Int), -1, v0) = true then N a' + 1 else N a') + 1 := by
    rw [eN]
    unfold nst
    rw [if_neg (by simp only [hh]; decide), if_pos (by simp only [hh])]
  refine ⟨by rw [hNi]; split <;> omega, fun b r k2 e2 hd hr h2 hn => ?_⟩
  obtain ⟨q1, q2, -⟩ := sg_tok (b := b) (op := m) ⟨by omega, by omega⟩
  rw [eT2] at hd h2
  have hd0 : t.drop b = sgT (m : Int) ++ (32 :: (X ++ r)) := by rw [hd]; simp
  have hd1 : t.drop (b + (sgT (m : Int)).length) = 32 :: (X ++ r) := by rw [← List.drop_drop, hd0, List.drop_left]
  have hd2 : t.drop (b + (sgT (m : Int)).length + 1) = X ++ r := by rw [← List.drop_drop, hd1]; rfl
  have h2' : TA t (b + (sgT (m : Int)).length + 1 + X.length) k2 e2 := by
    have e : b + (sgT (m : Int) ++ (32 :: X)).length = b + (sgT (m : Int)).length + 1 + X.length := by rw [List.length_append, List.length_cons]; omega
    rw [e] at h2
    exact h2
  have hta := ta_of hd0 q2 (.inr ⟨_, rfl⟩) q1
  rw [h6i] at hn
  by_cases h5 : m = 5
  · subst h5
    rw [if_pos (.inl rfl)] at hX
    subst hX
    obtain ⟨s1, s2⟩ := cl_brk hal hopa hca hd2 hr h2'
    refine ⟨_, _, hta, cl_six hi h6i fun d hdN => ?_⟩
    rw [hNi, if_neg (fun q => q.1 rfl)] at hdN
    have hpt := put_take (k := k2) (e := e2) (d := d + 1) hi W.n (p := ((5 : Int), (a' : Int), -1, v0)) hp.symm
    rw [hlo, hia]
    rw [hia] at hpt
    exact rd_len (st := ⟨⟨sgK 5, b, sgT ((5 : Nat) : Int), v0⟩, b + (sgT ((5 : Nat) : Int)).length, d, l.take (lo a')⟩) (st2 := ⟨k2, e2, d + 1, l.take (a' + 1)⟩) (st3 := ⟨k2, e2, d + 1, l.take (a' + 1 + 1)⟩) (by show d ≠ 20; omega) rfl rfl (ta_skip hd1 s1) (s2 (d + 1) (by omega)) (by rw [las_take hal]; exact hpt)
  · have hX2 : (if lbr l ((m : Int), (a' : Int), -1, v0) = true then brk (T a') else T a') = X := by
      rw [← hX]
      by_cases hq : lbr l ((m : Int), (a' : Int), -1, v0) = true
      · rw [if_pos hq, if_pos (.inr hq)]
      · rw [if_neg hq, if_neg (by rintro (q | q); omega; exact hq q)]
    obtain ⟨k, e, s1, -, s3⟩ := cl_opd hal hopa hca (lbr l ((m : Int), (a' : Int), -1, v0)) (L := 6) (fun q => by rw [hlb] at q; have := of_decide_eq_false q; omega) (by rw [hX2]; exact hd2) hr (by rw [hX2]; exact h2') hn
    refine ⟨_, _, hta, cl_six hi h6i fun d hdN => ?_⟩
    have hdN2 : ((d + 1 : Nat) : Int) + (if lbr l ((m : Int), (a' : Int), -1, v0) = true then N a' + 1 else N a') ≤ 20 := by
      rw [hNi] at hdN
      by_cases hq : lbr l ((m : Int), (a' : Int), -1, v0) = true
      · rw [if_pos ⟨by omega, hq⟩] at hdN; rw [if_pos hq]; omega
      · rw [if_neg (fun z => hq z.2)] at hdN; rw [if_neg hq]; omega
    have hd20 : d ≠ 20 := by
      by_cases hq : lbr l ((m : Int), (a' : Int), -1, v0) = true
      · rw [if_pos hq] at hdN2; omega
      · rw [if_neg hq] at hdN2; omega
    have hpt := put_take (k := k2) (e := e2) (d := d + 1) hi W.n (p := ((m : Int), (a' : Int), -1, v0)) hp.symm
    rw [hlo, hia]
    rw [hia] at hpt
    have hrd := s3 rfl (d + 1) hdN2
    rcases (by omega : m = 3 ∨ m = 4) with rfl | rfl
    · exact rd_neg (st := ⟨⟨sgK 3, b, sgT ((3 : Nat) : Int), v0⟩, b + (sgT ((3 : Nat) : Int)).length, d, l.take (lo a')⟩) (st2 := ⟨k2, e2, d + 1, l.take (a' + 1)⟩) (st3 := ⟨k2, e2, d + 1, l.take (a' + 1 + 1)⟩) hd20 rfl rfl (ta_skip hd1 s1) hrd (by rw [las_take hal]; exact hpt)
    · exact rd_not (st := ⟨⟨sgK 4, b, sgT ((4 : Nat) : Int), v0⟩, b + (sgT ((4 : Nat) : Int)).length, d, l.take (lo a')⟩) (st2 := ⟨k2, e2, d + 1, l.take (a' + 1)⟩) (st3 := ⟨k2, e2, d + 1, l.take (a' + 1 + 1)⟩) hd20 rfl rfl (ta_skip hd1 s1) hrd (by rw [las_take hal]; exact hpt)
theorem cl_two (W : Wl l lo T N) {i : Nat} (hi : i < l.length) (hh : hnd l[i].1 = 2) (ih : ∀ a, a < i → Cl t l lo T N a) : Cl t l lo T N i := by
  obtain ⟨g, f⟩ := W.g i hi
  obtain ⟨a0, b0, hib0, hlb0, eT, eN⟩ := W.t2 i hi hh
  obtain ⟨a, c, hic, hA, hB, hloc, hac, hlo, hle⟩ := f.t hh
  obtain rfl : c = b0 := by omega
  obtain rfl : a = a0 := by omega
  have hal : a < l.length := by omega
  have hcl : c < l.length := by omega
  have hv := g.v
  have hop1 := hnd_op g.h
  have hopa := hnd_op ((W.g a hal).1).h
  have hopc := hnd_op ((W.g c hcl).1).h
  have hca := ih a (by omega)
  have hcc := ih c (by omega)
  have hop : 6 ≤ l[i].1 := by
    rcases hnd_cases hop1 with ⟨q, -⟩ | ⟨q, -⟩ | ⟨-, q⟩
    · omega
    · omega
    · exact q
  obtain ⟨p, hp⟩ : ∃ p, l[i] = p := ⟨_, rfl⟩
  rw [hp] at eT eN hA hB hv hop hh hop1
  obtain ⟨o, A, B, v⟩ := p
  simp only at eT eN hA hB hv hop hh hop1
  subst hA hB
  obtain rfl : v = v0 := by
    unfold hol at hv
    rw [if_neg (by show ¬ o = 1; omega), if_neg (by show ¬ o = 2; omega), beq_iff_eq] at hv
    exact hv
  obtain ⟨m, rfl⟩ : ∃ m : Nat, o = (m : Int) := ⟨o.toNat, by omega⟩
  have hm : 6 ≤ m ∧ m ≤ 18 := ⟨by omega, by omega⟩
  obtain ⟨P, hP⟩ : ∃ P : P10, ((m : Int), (a : Int), (c : Int), v0) = P := ⟨_, rfl⟩
  obtain ⟨XA, hXA⟩ : ∃ X, (if lbr l P = true then brk (T a) else T a) = X := ⟨_, rfl⟩
  obtain ⟨XB, hXB⟩ : ∃ X, (if rbr l P = true then brk (T c) else T c) = X := ⟨_, rfl⟩
  have eT2 : T i = XA ++ (32 :: (sgT (m : Int) ++ (32 :: XB))) := by
    rw [eT]
    unfold wrt
    rw [if_neg (by show ¬ (m : Int) = 1; omega), if_neg (by show ¬ (m : Int) = 2; omega), if_neg (by show ¬ (c : Int) < 0; omega)]
    subst hP
    simp only
    rw [hXB]
    have e : (if (m : Int) = 5 ∨ lbr l ((m : Int), (a : Int), (c : Int), v0) = true then brk (T a) else T a) = XA := by
      rw [← hXA]
      by_cases hq : lbr l ((m : Int), (a : Int), (c : Int), v0) = true
      · rw [if_pos hq, if_pos (.inr hq)]
      · rw [if_neg hq, if_neg (by rintro (q | q); omega; exact hq q)]
    rw [e]
    simp
  have hlI : lvI (m : Int) = lvl m := by unfold lvI; rw [Int.toNat_natCast]
  have hlv := lvl_rng hm
  have hlb : lbr l P = decide (lvI (opAt l (a : Int)) < lvl m) := by rw [← hP, ← hlI]; rfl
  have hrb : rbr l P = decide (lvI (opAt l (c : Int)) ≤ lvl m) := by rw [← hP, ← hlI]; rfl
  have hoi : lvI (opAt l (i : Int)) = lvl m := by rw [opAt_get hi, hp, ← hlI]
  have hNa := hca.1
  have hNi : N i = max (if lbr l P = true then N a + 1 else N a) (if rbr l P = true then N c + 1 else N c) := by
    rw [eN, hP]
    unfold nst
    rw [← hP, if_neg (by simp only [hh]; decide), if_neg (by simp only [hh]; decide)]
  refine ⟨by rw [hNi]; split <;> split <;> omega, fun b r k2 e2 hd hr h2 hn => ?_⟩
  rw [hoi] at hn ⊢
  rw [eT2] at hd h2
  obtain ⟨b1, hb1⟩ : ∃ b1, b + XA.length = b1 := ⟨_, rfl⟩
  obtain ⟨b2, hb2⟩ : ∃ b2, b1 + 1 + (sgT (m : Int)).length = b2 := ⟨_, rfl⟩
  obtain ⟨q1, q2, q3⟩ := sg_tok (b := b1 + 1) (op := m) ⟨by omega, by omega⟩
  have hd0 : t.drop b = XA ++ (32 :: (sgT (m : Int) ++ (32 :: (XB ++ r)))) := by rw [hd]; simp
  have hd1 : t.drop b1 = 32 :: (sgT (m : Int) ++ (32 :: (XB ++ r))) := by rw [← hb1, ← List.drop_drop, hd0, List.drop_left]
  have hd2 : t.drop (b1 + 1) = sgT (m : Int) ++ (32 :: (XB ++ r)) := by rw [← List.drop_drop, hd1]; rfl
  have hd3 : t.drop b2 = 32 :: (XB ++ r) := by rw [← hb2, ← List.drop_drop, hd2, List.drop_left]
  have hd4 : t.drop (b2 + 1) = XB ++ r := by rw [← List.drop_drop, hd3]; rfl
  have h2' : TA t (b2 + 1 + XB.length) k2 e2 := by
    have e : b + (XA ++ (32 :: (sgT (m : Int) ++ (32 :: XB)))).length = b2 + 1 + XB.length := by rw [List.length_append, List.length_cons, List.length_append, List.length_cons]; omega
    rw [e] at h2
    exact h2
  have hsg := ta_of hd2 q2 (.inr ⟨_, rfl⟩) q1
  rw [hb2] at hsg
  obtain ⟨kB', eB', s1, s2, -⟩ := cl_opd hcl hopc hcc (rbr l P) (L := lvl m + 1) (fun q => by rw [hrb] at q; have := of_decide_eq_false q; omega) (by rw [hXB]; exact hd4) hr (by rw [hXB]; exact h2') (hn.imp id (fun q => by omega))
  obtain ⟨kA', eA', u1, u2, -⟩ := cl_opd hal hopa hca (lbr l P) (L := lvl m) (fun q => by rw [hlb] at q; have := of_decide_eq_false q; omega) (r := 32 :: (sgT (m : Int) ++ (32 :: (XB ++ r)))) (by rw [hXA]; exact hd0) (.inr ⟨_, rfl⟩) (by rw [hXA, hb1]; exact ta_skip hd1 hsg) (.inr (by simp only; rw [q3 hm.1]; exact Int.le_refl _))
  refine ⟨kA', eA', u1, fun d lv st' hdN hlv2 hrm => ?_, fun q => by omega⟩
  rw [hNi] at hdN
  rw [hlo]
  refine u2 d lv st' (by omega) hlv2 ?_
  have hro := s2 d (lvl m + 1) ⟨k2, e2, d, l.take (c + 1)⟩ (by omega) (Int.le_refl _) (rm_stop (hn.imp id (fun q => by show lvl (twoH k2.s) < _; omega)))
  rw [hloc] at hro
  have hpt := put_take (k := k2) (e := e2) (d := d) hi W.n (p := P) (by rw [hp, hP])
  rw [← hP, hic] at hpt
  refine rm_step (op := m) (st2 := ⟨k2, e2, d, l.take (c + 1)⟩) (st3 := ⟨k2, e2, d, l.take (c + 1 + 1)⟩) (q3 hm.1) (by omega) hlv2 (ta_skip hd3 s1) hro (by rw [las_take hcl]; exact hpt) ?_
  rw [← hic, las_take hi]
  exact hrm
theorem cl_all (W : Wl l lo T N) (hk : ∀ p ∈ l, Vk p.2.2.2) : ∀ (i : Nat), i < l.length → Cl t l lo T N i := by
  intro i
  induction i using Nat.strongRecOn with
  | ind i ih =>
    intro hi
    rcases hnd_cases (hnd_op ((W.g i hi).1).h) with ⟨q, -⟩ | ⟨q, -⟩ | ⟨q, -⟩
    · exact cl_zero W hk hi q
    · exact cl_one W hi q (fun a ha => ih a ha (by omega))
    · exact cl_two W hi q (fun a ha => ih a ha (by omega))
/-- what is printed of parts that may be is read as these -/
theorem prt_back (hm : mayE l = true) (hk : ∀ p ∈ l, Vk p.2.2.2) (h0 : (prtE l).2 = 0) : ∃ n, prs n (prtE l).1 = some (l, 0, 0) := by
  have hsh : shp l = true := by unfold mayE at hm; rw [Bool.and_eq_true] at hm; exact hm.1
  have hN : (alg l l [])[l.length - 1]?.getD 0 ≤ 20 := by unfold mayE at hm; rw [Bool.and_eq_true, decide_eq_true_eq] at hm; exact hm.2
  obtain ⟨-, hl1, -⟩ := shp_wg hsh
  obtain ⟨lo, T, N, W, hlo⟩ := wl_of hsh
  have hlast : l.length - 1 < l.length := by omega
  have hp : prtE l = (T (l.length - 1), 0) ∧ (T (l.length - 1)).length ≤ 512 := by
    have hw := (W.w _ hlast).1
    unfold prtE at h0 ⊢
    rw [if_pos hm] at h0 ⊢
    have e : (wal l l [])[l.length - 1]?.getD [] = T (l.length - 1) := by
      rw [hw]; unfold gtS
      rw [if_pos (Int.natCast_nonneg _), Int.toNat_natCast]
    rw [e] at h0 ⊢
    by_cases hq : 512 < (T (l.length - 1)).length
    · rw [if_pos hq] at h0; cases h0
    · rw [if_neg hq]; exact ⟨rfl, by omega⟩
  rw [hp.1]
  obtain ⟨t, ht⟩ : ∃ t, T (l.length - 1) = t := ⟨_, rfl⟩
  have htl := hp.2
  rw [ht] at htl ⊢
  simp only
  have hc := (cl_all (t := t) W hk _ hlast).2 0 [] ⟨0, t.length, [], v0⟩ t.length (by rw [ht]; simp) (.inl rfl) (by rw [ht, Nat.zero_add]; exact ta_end (Nat.le_refl _)) (.inl rfl)
  obtain ⟨k, e, h1, h2, -⟩ := hc
  have hNl : N (l.length - 1) ≤ 20 := by
    rw [(W.w _ hlast).2]; unfold gt
    rw [if_pos (Int.natCast_nonneg _), Int.toNat_natCast]
    exact hN
  have hop := hnd_op ((W.g _ hlast).1).h
  obtain ⟨n0, hro⟩ := h2 0 1 _ (by omega) (by rw [opAt_get hlast]; exact (lvI_rng hop).1) (rm_stop (st := ⟨⟨0, t.length, [], v0⟩, t.length, 0, l.take (l.length - 1 + 1)⟩) (.inl rfl))
  rw [hlo, List.take_zero, show l.length - 1 + 1 = l.length by omega, List.take_length] at hro
  refine ⟨n0, prs_of htl ?_⟩
  unfold whol
  rw [h1 ⟨⟨0, 0, [], v0⟩, 0, 0, []⟩ rfl, bind_okE, hro n0 (Nat.le_refl _), bind_okE, if_pos rfl]
end Go.Proofs.YtpbfdaijnndilaaGreatDoor.x10

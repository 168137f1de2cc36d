/-
  The document's Put: what it comes to.
-/
import Derived.Test.YtaahmnkfjkbliaaDoorV9Put
import Derived.Test.YtaahmnkfjkbliaaDoorV9Get
namespace Go.Proofs.YtaahmnkfjkbliaaDoor
open Go.RowKit Go.Shelf Go.Sort
open Go.Lib hiding intOf

theorem new_four (W : World) (n : Nat) (hn : n = W.heap.size) (a b c d : Value) (T : TypeId) : ∀ j u, ([a, b, c, d] : List Value)[j]? = some u → (W.alloc (.cells #[a, b, c, d] T)).cell? ((⟨n, 0, none⟩ : Addr).add j) = some u := by
  subst hn
  intro j u h
  rw [Addr.add_lit, Nat.zero_add, World.cell?_alloc_new]
  simpa using h
theorem one_four (x : Vr) : ∀ u ∈ vc x, u.oneCell' = true := fun u hu => vcs_one [x] u (by simpa [vcs] using hu)
/-- the row that grew by one -/
theorem grew {W1 w4 w5 : World} {G : List Vr} {v4 v5 : Value} {y : Vr} {o : Obj} (hr : w4.ownsRow W1.heap.size 57 4 v4 G.length (vcs G)) (hb : Below W1.heap.size W1 w4) (hown : w5.ownsRow W1.heap.size 57 4 v5 (G.length + 1) (vcs G ++ vc y)) (hg : (w4.alloc o).grownBy w5 v4.ownBlock) : w5.ownsRow W1.heap.size 57 4 v5 (G ++ [y]).length (vcs (G ++ [y])) ∧ Below W1.heap.size W1 w5 := by
  have hs := hb.size
  refine ⟨?_, (hb.alloc hs o).grown hg (by simp; omega) (fun k hk => (World.ownsRow.lt hr k hk).1)⟩
  rw [List.length_append, List.length_singleton, vcs_append, show vcs [y] = vc y by simp [vcs]]
  exact hown
/-- what has been gathered when i are gone through: all but the name itself; the new one ahead of the first that is not less -/
def gth (l : List Vr) (k : ByteArray) (x : V9) (i : Nat) : List Vr := if i ≤ pos l k then l.take i else l.take (pos l k) ++ ([(k, x)] ++ (l.take i).drop (pos l k + if has l k then 1 else 0))
theorem gth_lo {l : List Vr} {k : ByteArray} {x : V9} {i : Nat} (h : i ≤ pos l k) : gth l k x i = l.take i := if_pos h
theorem gth_hi {l : List Vr} {k : ByteArray} {x : V9} {i : Nat} (h : ¬ i ≤ pos l k) : gth l k x i = l.take (pos l k) ++ ([(k, x)] ++ (l.take i).drop (pos l k + if has l k then 1 else 0)) := if_neg h
theorem gth_end {l : List Vr} {k : ByteArray} {x : V9} (h : pos l k < l.length) : gth l k x l.length = put l k x := by
  rw [gth_hi (by omega), List.take_length, put_parts]
theorem gth_less {l : List Vr} {k : ByteArray} {x : V9} {i : Nat} (hi : i < l.length) (hp : i < pos l k) : gth l k x (i + 1) = gth l k x i ++ [l[i]] := by
  rw [gth_lo (by omega), gth_lo (by omega), take_snoc9 hi]
theorem gth_new {l : List Vr} {k : ByteArray} {x : V9} {i : Nat} (hi : i < l.length) (hp : i = pos l k) : gth l k x (i + 1) = gth l k x i ++ ([(k, x)] ++ (if has l k then [] else [l[i]])) := by
  rw [gth_hi (by omega), gth_lo (by omega), ← hp, take_snoc9 hi]
  have hl : (l.take i).length = i := by rw [List.length_take]; omega
  congr 2
  cases has l k with
  | true => exact List.drop_of_length_le (by simp; omega)
  | false =>
    show (l.take i ++ [l[i]]).drop i = [l[i]]
    rw [List.drop_append_of_le_length (by omega), List.drop_of_length_le (by omega)]
    rfl
theorem gth_more {l : List Vr} {k : ByteArray} {x : V9} {i : Nat} (hi : i < l.length) (hp : pos l k < i) : gth l k x (i + 1) = gth l k x i ++ [l[i]] := by
  rw [gth_hi (by omega), gth_hi (by omega), take_snoc9 hi]
  have hq : (pos l k + if has l k then 1 else 0) ≤ (l.take i).length := by
    rw [List.length_take]
    cases has l k <;> simp <;> omega
  rw [List.drop_append_of_le_length hq]
  simp
theorem gth_len (l : List Vr) (k : ByteArray) (x : V9) (i : Nat) (hi : i ≤ l.length) : (gth l k x i).length ≤ i + 1 := by
  unfold gth
  split
  · rw [List.length_take]; omega
  · simp only [List.length_append, List.length_take, List.length_drop, List.length_singleton]
    omega
theorem name_ne {l : List Vr} {k : ByteArray} (hr : Rise l) {i : Nat} (hi : i < l.length) : l[i].1 = k ↔ (has l k = true ∧ i = pos l k) := by
  constructor
  · intro h
    have h1 : ¬ i < pos l k := fun hp => by
      have := (pos_lt l k i hr hi).2 hp
      rw [h, lt_irrefl] at this; cases this
    have h2 : ¬ pos l k < i := fun hp => by
      have hpl : pos l k < l.length := by omega
      have h5 := hr.get (i := pos l k) (j := i) hpl hi hp
      rw [h] at h5
      have := (pos_lt l k (pos l k) hr hpl).1 h5
      omega
    have hp : i = pos l k := by omega
    refine ⟨?_, hp⟩
    subst hp
    simp only [has, List.getElem?_eq_getElem hi, h]
    simp
  · rintro ⟨hh, rfl⟩
    exact (has_lt hh).2

set_option maxHeartbeats 8000000 in
set_option maxRecDepth 100000 in
theorem dPut_any {w : World} {v : Value} {l : List Vr} (k : ByteArray) (x : V9) (hv : Vs w v l) (hn : l.length ≤ 4611686018427387) (hs : Sm9 l) (hk : k.size ≤ 140737488355328) :
    Calls Tryd.prog 31 #[v, .string k, vA x] w (PuR w l k x) := by
  obtain ⟨i0, hi0, hz0, hz1, hz2⟩ := info_parts infoVar
  have CM := dMay_any x
  have CN := dNam_any k (by omega)
  have HV : Hid (Vs w v l) := hv
  obtain ⟨xk, xn, xs⟩ := x
  obtain ⟨W1, hW1⟩ : ∃ W1, w.alloc (.cells #[.int .i64 xk, .int .i64 xn, .string (S xs)] 23) = W1 := ⟨_, rfl⟩
  have B1 : Hid (Below w.heap.size w W1) := by rw [← hW1]; exact (Below.refl _ w).alloc (Nat.le_refl _) _
  have hcx : ∀ i, W1.cell? ⟨w.heap.size, i, none⟩ = (#[.int .i64 xk, .int .i64 xn, .string (S xs)] : Array Value)[i]? := fun i => by rw [← hW1]; exact World.cell?_alloc_new _ _ _ _
  have hz1' : w.heap.size < W1.heap.size := by rw [← hW1]; simp
  have HCX : Hid (∀ W, Below W1.heap.size W1 W → W.cell? ⟨w.heap.size, 0, none⟩ = some (.int .i64 xk) ∧ W.cell? ⟨w.heap.size, 1, none⟩ = some (.int .i64 xn) ∧ W.cell? ⟨w.heap.size, 2, none⟩ = some (.string (S xs))) := fun W hW => ⟨(hW.cell (p := ⟨w.heap.size, 0, none⟩) hz1').trans (hcx 0), (hW.cell (p := ⟨w.heap.size, 1, none⟩) hz1').trans (hcx 1), (hW.cell (p := ⟨w.heap.size, 2, none⟩) hz1').trans (hcx 2)⟩
  have CR1 := dRgt_any (hv.up B1.out) (by omega) hs
  have HPU : Hid (∀ e w', PuR w l k (xk, xn, xs) e w' ↔ ∃ v', e = .returned (.tuple #[v', .int .i64 ((putV l k (xk, xn, xs)).2 : Int)]) ∧ Vs w' v' (putV l k (xk, xn, xs)).1 ∧ Below w.heap.size w w') := fun _ _ => Iff.rfl
  unfold vA at CM ⊢
  obtain ⟨a, cap, rfl, hc, -⟩ := hv
  clear hcx hz1'
  by_cases hall : rgt l = true ∧ namV k.data.toList = true ∧ mayV (xk, xn, xs) = true
  · obtain ⟨q1, q2, q3⟩ := hall
    rw [q1] at CR1
    rw [q2] at CN
    rw [q3] at CM
    have hr := rgt_iff.1 q1
    have HE0 : Hid (putV l k (xk, xn, xs) = if has l k = false ∧ l.length = 16 then ([], 4) else (put l k (xk, xn, xs), 0)) := by show _ = _; unfold putV; rw [q1, q2, q3]; rfl
    have HRI : Hid (Rise l) := hr.2.1
    have hl16 := hr.1
    clear q1 q2 q3 hr
    go_enter Tryd.func31, Tryd.ntmps31
    go_wp2_with (first
      | (go_at_call 15; (try rw [hW1]); refine CR1.mono ?_; rintro e w2 ⟨rfl, b2⟩; (have B2 : Hid (Below W1.heap.size W1 w2) := b2); obtain ⟨s0, s1, s2⟩ := HCX.out w2 b2; clear b2 CR1)
      | (go_at_call 13; refine (CN _).mono ?_; rintro e u1 ⟨rfl, hu1⟩; rw [hu1]; clear hu1 u1)
      | (go_at_call 11; refine (CM _).mono ?_; rintro e w3 ⟨rfl, b3⟩; (have B3 : Hid (Below W1.heap.size W1 w3) := bel_of B2.out b3 (Nat.le_refl _)); clear b3 s0 s1 s2))
    clear hW1 CN CM B2
    go_loopw [11, 12, 13] (fun v11 v12 v13 wr => ∃ i : Nat, i ≤ l.length ∧ v13 = .int .i64 (i : Int) ∧ v12 = .bool (decide (pos l k < i)) ∧ Hid (wr.ownsRow W1.heap.size 57 4 v11 (gth l k (xk, xn, xs) i).length (vcs (gth l k (xk, xn, xs) i)) ∧ Below W1.heap.size W1 wr)) (fun _ _ v13 _ => l.length - (intOf v13).toNat)
    case atStart => exact ⟨0, Nat.zero_le _, rfl, rfl, World.ownsRow_nil _ _ _ _, B3.out⟩
    case round =>
      clear B3
      obtain ⟨i, hi, rfl, rfl, HB⟩ := hrel
      by_cases hil : i < l.length
      · have hil' : (i : Int) < (l.length : Int) := by omega
        have hii : (0 : Int) ≤ (i : Int) := by omega
        obtain ⟨b, off, cap', hsl, hbl, hcell⟩ := HV.out.at hil
        cases hsl
        have HCE : Hid (∀ W, Below W1.heap.size W1 W → _) := fun W (hW : Below W1.heap.size W1 W) => hcell W (bel_of B1.out hW (Nat.le_refl _))
        have hsx := (hs l[i] (List.getElem_mem hil)).1
        have hnm := name_ne (k := k) HRI.out hil
        have hpl := pos_lt l k i HRI.out hil
        have G1 : Hid (i < pos l k → gth l k (xk, xn, xs) (i + 1) = gth l k (xk, xn, xs) i ++ [l[i]]) := fun h => gth_less hil h
        have G2 : Hid (i = pos l k → gth l k (xk, xn, xs) (i + 1) = gth l k (xk, xn, xs) i ++ ([(k, xk, xn, xs)] ++ (if has l k then [] else [l[i]]))) := fun h => gth_new hil h
        have G3 : Hid (pos l k < i → gth l k (xk, xn, xs) (i + 1) = gth l k (xk, xn, xs) i ++ [l[i]]) := fun h => gth_more hil h
        have hgl := gth_len l k (xk, xn, xs) i (by omega)
        obtain ⟨y, hy⟩ : ∃ y, l[i] = y := ⟨_, rfl⟩
        rw [hy] at HCE hsx hnm hpl G1 G2 G3
        obtain ⟨nm, y1, y2, y3⟩ := y
        clear hy hcell
        simp only at hsx hnm hpl
        have HL := Less_quiet nm k (by omega) (by omega)
        obtain ⟨m0, -, -, -⟩ := HCE.out wr HB.out.2
        simp only at m0
        obtain ⟨G, hG⟩ : ∃ G, gth l k (xk, xn, xs) i = G := ⟨_, rfl⟩
        rw [hG] at HB G1 G2 G3 hgl
        clear hG
        obtain ⟨oa, oc, hov, -⟩ := row_slice HB.out.1
        subst hov
        have hfit := fit48 (G.length + 1) (by omega)
        have hfit2 := fit48 ((G ++ [(k, xk, xn, xs)]).length + 1) (by rw [List.length_append, List.length_singleton]; omega)
        have hml2 : (G ++ [(k, xk, xn, xs)]).length + 1 ≤ maxLen := by rw [List.length_append, List.length_singleton]; unfold maxLen; omega
        obtain ⟨p, hp⟩ : ∃ p, pos l k = p := ⟨_, rfl⟩
        rw [hp] at hnm hpl G1 G2 G3
        have HP : Hid (pos l k = p) := hp
        rw [hp]
        clear hp
        have hwz := HB.out.2.size
        rcases Nat.lt_trichotomy i p with hip | hip | hip
        · have hlt : lt nm k = true := hpl.2 hip
          have hne := str_ne (a := nm) (b := k) (fun e => by have := (hnm.1 e).2; omega)
          have hd : decide (p < i) = false := decide_eq_false (by omega)
          have HD : Hid (decide (p < i + 1) = false) := decide_eq_false (by omega)
          rw [hlt] at HL
          rw [hd]
          have HG : Hid (gth l k (xk, xn, xs) (i + 1) = G ++ [(nm, y1, y2, y3)]) := G1.out hip
          clear G1 G2 G3 hpl hnm hd hlt hip
          go_wp2_with (first
            | (go_at_call 36; refine (HL _).mono ?_; rintro e w4 ⟨rfl, q4, hw4⟩; (have B4 : Hid (Below W1.heap.size W1 w4) := by rw [hw4]; exact below_drewN HB.out.2 _); (have R4 : Hid (w4.ownsRow W1.heap.size 57 4 (.slice oa G.length oc) G.length (vcs G)) := by rw [hw4]; exact Ch.row (X := fun _ => False) (Ch.of_below (below_drewN (Below.refl _ wr) q4)) HB.out.1 (fun _ _ h => h)); obtain ⟨c0, c1, c2, c3⟩ := HCE.out w4 B4.out; (try simp only at c0 c1 c2 c3); obtain ⟨s0, s1, s2⟩ := HCX.out w4 B4.out; (have hz4 := B4.out.size); clear hw4 m0)
            | (at_builtin; refine wpList_append_own_wide _ rfl _ _ 24 rfl W1.heap.size 57 i0 _ 4 48 Tryd.underlying24 hi0 hz0 hz1 hz2 rfl (by decide) _ _ _ rfl (World.ownsRow.alloc R4.out _) ⟨w4.heap.size, 0, none⟩ 1 1 (vc (nm, y1, y2, y3)) rfl rfl (new_four _ _ rfl _ _ _ _ _) (one_four _) (by unfold maxLen; omega) hfit (by simp; omega) ?_; intro v5 w5 ho hgw _; obtain ⟨e1, e2⟩ := grew (y := (nm, y1, y2, y3)) R4.out B4.out ho hgw; (have R5 : Hid (w5.ownsRow W1.heap.size 57 4 v5 (G ++ [(nm, y1, y2, y3)]).length (vcs (G ++ [(nm, y1, y2, y3)]))) := e1); (have B5 : Hid (Below W1.heap.size W1 w5) := e2); (have hz5 := e2.size); clear ho hgw e1 e2 R4))
          go_roundw
          case rel => exact ⟨i + 1, by omega, by simp, by rw [HD.out], by rw [HG.out]; exact R5.out, B5.out⟩
          case measure => simp [intOf]; omega
        · have hlt : lt nm k = false := by rw [← Bool.not_eq_true]; exact fun h => by have := hpl.1 h; omega
          have hd : decide (p < i) = false := decide_eq_false (by omega)
          have HD : Hid (decide (p < i + 1) = true) := decide_eq_true (by omega)
          rw [hlt] at HL
          rw [hd]
          have HG := G2.out hip
          cases hh : has l k with
          | true =>
            have hne := str_eq (hnm.2 ⟨hh, hip⟩)
            have HG2 : Hid (gth l k (xk, xn, xs) (i + 1) = G ++ [(k, xk, xn, xs)]) := by show _ = _; rw [HG, hh]; rfl
            clear G1 G2 G3 hpl hnm hd hlt hip HG hh
            go_wp2_with (first
              | (go_at_call 36; refine (HL _).mono ?_; rintro e w4 ⟨rfl, q4, hw4⟩; (have B4 : Hid (Below W1.heap.size W1 w4) := by rw [hw4]; exact below_drewN HB.out.2 _); (have R4 : Hid (w4.ownsRow W1.heap.size 57 4 (.slice oa G.length oc) G.length (vcs G)) := by rw [hw4]; exact Ch.row (X := fun _ => False) (Ch.of_below (below_drewN (Below.refl _ wr) q4)) HB.out.1 (fun _ _ h => h)); obtain ⟨c0, c1, c2, c3⟩ := HCE.out w4 B4.out; (try simp only at c0 c1 c2 c3); obtain ⟨s0, s1, s2⟩ := HCX.out w4 B4.out; (have hz4 := B4.out.size); clear hw4 m0)
              | (at_builtin; refine wpList_append_own_wide _ rfl _ _ 24 rfl W1.heap.size 57 i0 _ 4 48 Tryd.underlying24 hi0 hz0 hz1 hz2 rfl (by decide) _ _ _ rfl (World.ownsRow.alloc R4.out _) ⟨w4.heap.size, 0, none⟩ 1 1 (vc (k, xk, xn, xs)) rfl rfl (new_four _ _ rfl _ _ _ _ _) (one_four _) (by unfold maxLen; omega) hfit (by simp; omega) ?_; intro v5 w5 ho hgw _; obtain ⟨e1, e2⟩ := grew (y := (k, xk, xn, xs)) R4.out B4.out ho hgw; (have R5 : Hid (w5.ownsRow W1.heap.size 57 4 v5 (G ++ [(k, xk, xn, xs)]).length (vcs (G ++ [(k, xk, xn, xs)]))) := e1); (have B5 : Hid (Below W1.heap.size W1 w5) := e2); obtain ⟨c0, c1, c2, c3⟩ := HCE.out w5 B5.out; (try simp only at c0 c1 c2 c3); (have hz5 := e2.size); clear ho hgw e1 e2 R4))
            go_roundw
            case rel => exact ⟨i + 1, by omega, by simp, by rw [HD.out], by rw [HG2.out]; exact R5.out, B5.out⟩
            case measure => simp [intOf]; omega
          | false =>
            have hne := str_ne (a := nm) (b := k) (fun e => by have := (hnm.1 e).1; rw [hh] at this; cases this)
            have HG2 : Hid (gth l k (xk, xn, xs) (i + 1) = G ++ [(k, xk, xn, xs)] ++ [(nm, y1, y2, y3)]) := by show _ = _; rw [HG, hh, List.append_assoc]; rfl
            clear G1 G2 G3 hpl hnm hd hlt hip HG hh
            go_wp2_with (first
              | (go_at_call 36; refine (HL _).mono ?_; rintro e w4 ⟨rfl, q4, hw4⟩; (have B4 : Hid (Below W1.heap.size W1 w4) := by rw [hw4]; exact below_drewN HB.out.2 _); (have R4 : Hid (w4.ownsRow W1.heap.size 57 4 (.slice oa G.length oc) G.length (vcs G)) := by rw [hw4]; exact Ch.row (X := fun _ => False) (Ch.of_below (below_drewN (Below.refl _ wr) q4)) HB.out.1 (fun _ _ h => h)); obtain ⟨c0, c1, c2, c3⟩ := HCE.out w4 B4.out; (try simp only at c0 c1 c2 c3); obtain ⟨s0, s1, s2⟩ := HCX.out w4 B4.out; (have hz4 := B4.out.size); clear hw4 m0)
              | (at_builtin; refine wpList_append_own_wide _ rfl _ _ 24 rfl W1.heap.size 57 i0 _ 4 48 Tryd.underlying24 hi0 hz0 hz1 hz2 rfl (by decide) _ _ _ rfl (World.ownsRow.alloc R4.out _) ⟨w4.heap.size, 0, none⟩ 1 1 (vc (k, xk, xn, xs)) rfl rfl (new_four _ _ rfl _ _ _ _ _) (one_four _) (by unfold maxLen; omega) hfit (by simp; omega) ?_; intro v5 w5 ho hgw _; obtain ⟨e1, e2⟩ := grew (y := (k, xk, xn, xs)) R4.out B4.out ho hgw; (have R5 : Hid (w5.ownsRow W1.heap.size 57 4 v5 (G ++ [(k, xk, xn, xs)]).length (vcs (G ++ [(k, xk, xn, xs)]))) := e1); (have B5 : Hid (Below W1.heap.size W1 w5) := e2); obtain ⟨c0, c1, c2, c3⟩ := HCE.out w5 B5.out; (try simp only at c0 c1 c2 c3); (have hz5 := e2.size); clear ho hgw e1 e2 R4)
              | (at_builtin; refine wpList_append_own_wide _ rfl _ _ 24 rfl W1.heap.size 57 i0 _ 4 48 Tryd.underlying24 hi0 hz0 hz1 hz2 rfl (by decide) _ _ _ rfl (World.ownsRow.alloc R5.out _) ⟨w5.heap.size, 0, none⟩ 1 1 (vc (nm, y1, y2, y3)) rfl rfl (new_four _ _ rfl _ _ _ _ _) (one_four _) hml2 hfit2 (by simp; omega) ?_; intro v6 w6 ho hgw _; obtain ⟨e1, e2⟩ := grew (y := (nm, y1, y2, y3)) R5.out B5.out ho hgw; (have R6 : Hid (w6.ownsRow W1.heap.size 57 4 v6 (G ++ [(k, xk, xn, xs)] ++ [(nm, y1, y2, y3)]).length (vcs (G ++ [(k, xk, xn, xs)] ++ [(nm, y1, y2, y3)]))) := e1); (have B6 : Hid (Below W1.heap.size W1 w6) := e2); (have hz6 := e2.size); clear ho hgw e1 e2 R5))
            go_roundw
            case rel => exact ⟨i + 1, by omega, by simp, by rw [HD.out], by rw [HG2.out]; exact R6.out, B6.out⟩
            case measure => simp [intOf]; omega
        · have hlt : lt nm k = false := by rw [← Bool.not_eq_true]; exact fun h => by have := hpl.1 h; omega
          have hne := str_ne (a := nm) (b := k) (fun e => by have := (hnm.1 e).2; omega)
          have hd : decide (p < i) = true := decide_eq_true (by omega)
          have HD : Hid (decide (p < i + 1) = true) := decide_eq_true (by omega)
          rw [hlt] at HL
          rw [hd]
          have HG : Hid (gth l k (xk, xn, xs) (i + 1) = G ++ [(nm, y1, y2, y3)]) := G3.out hip
          clear G1 G2 G3 hpl hnm hd hlt hip
          go_wp2_with (first
            | (go_at_call 36; refine (HL _).mono ?_; rintro e w4 ⟨rfl, q4, hw4⟩; (have B4 : Hid (Below W1.heap.size W1 w4) := by rw [hw4]; exact below_drewN HB.out.2 _); (have R4 : Hid (w4.ownsRow W1.heap.size 57 4 (.slice oa G.length oc) G.length (vcs G)) := by rw [hw4]; exact Ch.row (X := fun _ => False) (Ch.of_below (below_drewN (Below.refl _ wr) q4)) HB.out.1 (fun _ _ h => h)); obtain ⟨c0, c1, c2, c3⟩ := HCE.out w4 B4.out; (try simp only at c0 c1 c2 c3); obtain ⟨s0, s1, s2⟩ := HCX.out w4 B4.out; (have hz4 := B4.out.size); clear hw4 m0)
            | (at_builtin; refine wpList_append_own_wide _ rfl _ _ 24 rfl W1.heap.size 57 i0 _ 4 48 Tryd.underlying24 hi0 hz0 hz1 hz2 rfl (by decide) _ _ _ rfl (World.ownsRow.alloc R4.out _) ⟨w4.heap.size, 0, none⟩ 1 1 (vc (nm, y1, y2, y3)) rfl rfl (new_four _ _ rfl _ _ _ _ _) (one_four _) (by unfold maxLen; omega) hfit (by simp; omega) ?_; intro v5 w5 ho hgw _; obtain ⟨e1, e2⟩ := grew (y := (nm, y1, y2, y3)) R4.out B4.out ho hgw; (have R5 : Hid (w5.ownsRow W1.heap.size 57 4 v5 (G ++ [(nm, y1, y2, y3)]).length (vcs (G ++ [(nm, y1, y2, y3)]))) := e1); (have B5 : Hid (Below W1.heap.size W1 w5) := e2); (have hz5 := e2.size); clear ho hgw e1 e2 R4))
          go_roundw
          case rel => exact ⟨i + 1, by omega, by simp, by rw [HD.out], by rw [HG.out]; exact R5.out, B5.out⟩
          case measure => simp [intOf]; omega
      · obtain rfl : i = l.length := by omega
        have hil' : ¬ (l.length : Int) < (l.length : Int) := by omega
        have hgl := gth_len l k (xk, xn, xs) l.length (Nat.le_refl _)
        by_cases hpe : pos l k < l.length
        · have HG : Hid (gth l k (xk, xn, xs) l.length = put l k (xk, xn, xs)) := gth_end hpe
          rw [HG.out] at HB
          rw [decide_eq_true hpe]
          have hpn := put_len l k (xk, xn, xs)
          by_cases hfl : has l k = false ∧ l.length = 16
          · have HE : Hid (putV l k (xk, xn, xs) = ([], 4)) := by show _ = _; rw [HE0.out, if_pos hfl]
            rw [hfl.1, if_neg (by simp)] at hpn
            have hgt : (16 : Int) < ((put l k (xk, xn, xs)).length : Int) := by omega
            have HBW : Hid (Below w.heap.size w wr) := bel_of B1.out HB.out.2 (Nat.le_refl _)
            obtain ⟨oa, oc, rfl, -⟩ := row_slice HB.out.1
            generalize put l k (xk, xn, xs) = r at *
            clear HB hpn
            go_wp2
            go_ret2
            exact (HPU.out _ _).2 ⟨.slice none 0 0, by rw [HE.out]; rfl, by rw [HE.out]; exact Vs.nil _, HBW.out⟩
          · have HE : Hid (putV l k (xk, xn, xs) = (put l k (xk, xn, xs), 0)) := by show _ = _; rw [HE0.out, if_neg hfl]
            have hle : ¬ (16 : Int) < ((put l k (xk, xn, xs)).length : Int) := by
              cases hh : has l k with
              | true => rw [hh, if_pos rfl] at hpn; omega
              | false =>
                rw [hh, if_neg (by simp)] at hpn
                have : l.length ≠ 16 := fun e => hfl ⟨hh, e⟩
                omega
            have HBW : Hid (Below w.heap.size w wr) := bel_of B1.out HB.out.2 (Nat.le_refl _)
            have HVS : Hid (Vs wr _ (put l k (xk, xn, xs))) := Vs.row HB.out.1
            obtain ⟨oa, oc, rfl, -⟩ := row_slice HB.out.1
            generalize put l k (xk, xn, xs) = r at *
            clear HB hpn hfl
            go_wp2
            go_ret2
            exact (HPU.out _ _).2 ⟨_, by rw [HE.out]; rfl, by rw [HE.out]; exact HVS.out, HBW.out⟩
        · have hpe' : pos l k = l.length := by have := pos_le l k; omega
          have hh : has l k = false := by
            cases h : has l k with
            | false => rfl
            | true => exact absurd (has_lt h).1 hpe
          have HG : gth l k (xk, xn, xs) l.length = l := by rw [gth_lo (by omega), List.take_length]
          rw [HG] at HB
          rw [decide_eq_false hpe]
          have HPP : Hid (put l k (xk, xn, xs) = l ++ [(k, xk, xn, xs)]) := by show _ = _; rw [put_parts, hh, hpe', List.take_length]; simp
          obtain ⟨s0, s1, s2⟩ := HCX.out wr HB.out.2
          have hwz := HB.out.2.size
          have hfit := fit48 (l.length + 1) (by omega)
          have HBW : Hid (Below W1.heap.size W1 wr) := HB.out.2
          have HR : Hid (wr.ownsRow W1.heap.size 57 4 _ l.length (vcs l)) := HB.out.1
          obtain ⟨oa, oc, hov, -⟩ := row_slice HB.out.1
          subst hov
          clear HB HG hgl hpe' hpe
          by_cases hfl : l.length = 16
          · have HE : Hid (putV l k (xk, xn, xs) = ([], 4)) := by show _ = _; rw [HE0.out, if_pos ⟨hh, hfl⟩]
            have HF : Hid (l.length = 16) := hfl
            clear hfl hh
            go_wp2_with (first
              | (at_builtin; refine wpList_append_own_wide _ rfl _ _ 24 rfl W1.heap.size 57 i0 _ 4 48 Tryd.underlying24 hi0 hz0 hz1 hz2 rfl (by decide) _ _ _ rfl (World.ownsRow.alloc HR.out _) ⟨wr.heap.size, 0, none⟩ 1 1 (vc (k, xk, xn, xs)) rfl rfl (new_four _ _ rfl _ _ _ _ _) (one_four _) (by unfold maxLen; omega) hfit (by simp; omega) ?_; intro v5 w5 ho hgw _; obtain ⟨e1, e2⟩ := grew (y := (k, xk, xn, xs)) HR.out HBW.out ho hgw; rw [← HPP.out] at e1; (have V5 : Hid (Vs w5 v5 (put l k (xk, xn, xs))) := Vs.row e1); (have B5 : Hid (Below w.heap.size w w5) := bel_of B1.out e2 (Nat.le_refl _)); obtain ⟨a5, c5, hv5, -⟩ := row_slice e1; subst hv5; rw [HPP.out] at e1; (have hln : ((put l k (xk, xn, xs)).length : Int) = (l.length : Int) + 1 := by rw [HPP.out]; simp); (have hgt : (16 : Int) < ((put l k (xk, xn, xs)).length : Int) := by rw [hln, HF.out]; decide); clear ho hgw e1 e2 HR hln; generalize put l k (xk, xn, xs) = r at *))
            go_ret2
            exact (HPU.out _ _).2 ⟨.slice none 0 0, by rw [HE.out]; rfl, by rw [HE.out]; exact Vs.nil _, B5.out⟩
          · have HE : Hid (putV l k (xk, xn, xs) = (put l k (xk, xn, xs), 0)) := by show _ = _; rw [HE0.out, if_neg (fun h => hfl h.2)]
            have hl15 : l.length ≤ 15 := by omega
            clear hfl hh
            go_wp2_with (first
              | (at_builtin; refine wpList_append_own_wide _ rfl _ _ 24 rfl W1.heap.size 57 i0 _ 4 48 Tryd.underlying24 hi0 hz0 hz1 hz2 rfl (by decide) _ _ _ rfl (World.ownsRow.alloc HR.out _) ⟨wr.heap.size, 0, none⟩ 1 1 (vc (k, xk, xn, xs)) rfl rfl (new_four _ _ rfl _ _ _ _ _) (one_four _) (by unfold maxLen; omega) hfit (by simp; omega) ?_; intro v5 w5 ho hgw _; obtain ⟨e1, e2⟩ := grew (y := (k, xk, xn, xs)) HR.out HBW.out ho hgw; rw [← HPP.out] at e1; (have V5 : Hid (Vs w5 v5 (put l k (xk, xn, xs))) := Vs.row e1); (have B5 : Hid (Below w.heap.size w w5) := bel_of B1.out e2 (Nat.le_refl _)); obtain ⟨a5, c5, hv5, -⟩ := row_slice e1; subst hv5; rw [HPP.out] at e1; (have hln : ((put l k (xk, xn, xs)).length : Int) = (l.length : Int) + 1 := by rw [HPP.out]; simp); (have hgt : ¬ (16 : Int) < ((put l k (xk, xn, xs)).length : Int) := by rw [hln]; omega); clear ho hgw e1 e2 HR hln; generalize put l k (xk, xn, xs) = r at *))
            go_ret2
            exact (HPU.out _ _).2 ⟨_, by rw [HE.out]; rfl, by rw [HE.out]; exact V5.out, B5.out⟩
  · have HE : Hid (putV l k (xk, xn, xs) = ([], 1)) := by
      show _ = _
      unfold putV
      rw [if_neg (fun h => hall (by simpa [Bool.and_eq_true, and_assoc] using h))]
    have hcs : rgt l = false ∨ (rgt l = true ∧ namV k.data.toList = false) ∨ (rgt l = true ∧ namV k.data.toList = true ∧ mayV (xk, xn, xs) = false) := by
      cases h1 : rgt l with
      | false => exact .inl rfl
      | true =>
        cases h2 : namV k.data.toList with
        | false => exact .inr (.inl ⟨rfl, rfl⟩)
        | true =>
          cases h3 : mayV (xk, xn, xs) with
          | false => exact .inr (.inr ⟨rfl, rfl, rfl⟩)
          | true => exact absurd ⟨h1, h2, h3⟩ hall
    clear hall
    generalize rgt l = y1 at *
    generalize namV k.data.toList = y2 at *
    generalize mayV (xk, xn, xs) = y3 at *
    rcases hcs with rfl | ⟨rfl, rfl⟩ | ⟨rfl, rfl, rfl⟩
    · cases y2 <;> cases y3
      all_goals
        go_enter Tryd.func31, Tryd.ntmps31
        go_wp2_with (first
          | (go_at_call 15; (try rw [hW1]); refine CR1.mono ?_; rintro e w2 ⟨rfl, b2⟩; (have B2 : Hid (Below W1.heap.size W1 w2) := b2); obtain ⟨s0, s1, s2⟩ := HCX.out w2 b2; clear b2 CR1)
          | (go_at_call 13; refine (CN _).mono ?_; rintro e u1 ⟨rfl, hu1⟩; rw [hu1]; clear hu1 u1)
          | (go_at_call 11; refine (CM _).mono ?_; rintro e w3 ⟨rfl, b3⟩; (have B3 : Hid (Below W1.heap.size W1 w3) := bel_of B2.out b3 (Nat.le_refl _)); clear b3 s0 s1 s2))
        go_ret2
        exact (HPU.out _ _).2 ⟨.slice none 0 0, by rw [HE.out]; rfl, by rw [HE.out]; exact Vs.nil _, bel_of B1.out B3.out (Nat.le_refl _)⟩
    · cases y3
      all_goals
        go_enter Tryd.func31, Tryd.ntmps31
        go_wp2_with (first
          | (go_at_call 15; (try rw [hW1]); refine CR1.mono ?_; rintro e w2 ⟨rfl, b2⟩; (have B2 : Hid (Below W1.heap.size W1 w2) := b2); obtain ⟨s0, s1, s2⟩ := HCX.out w2 b2; clear b2 CR1)
          | (go_at_call 13; refine (CN _).mono ?_; rintro e u1 ⟨rfl, hu1⟩; rw [hu1]; clear hu1 u1)
          | (go_at_call 11; refine (CM _).mono ?_; rintro e w3 ⟨rfl, b3⟩; (have B3 : Hid (Below W1.heap.size W1 w3) := bel_of B2.out b3 (Nat.le_refl _)); clear b3 s0 s1 s2))
        go_ret2
        exact (HPU.out _ _).2 ⟨.slice none 0 0, by rw [HE.out]; rfl, by rw [HE.out]; exact Vs.nil _, bel_of B1.out B3.out (Nat.le_refl _)⟩
    · go_enter Tryd.func31, Tryd.ntmps31
      go_wp2_with (first
        | (go_at_call 15; (try rw [hW1]); refine CR1.mono ?_; rintro e w2 ⟨rfl, b2⟩; (have B2 : Hid (Below W1.heap.size W1 w2) := b2); obtain ⟨s0, s1, s2⟩ := HCX.out w2 b2; clear b2 CR1)
        | (go_at_call 13; refine (CN _).mono ?_; rintro e u1 ⟨rfl, hu1⟩; rw [hu1]; clear hu1 u1)
        | (go_at_call 11; refine (CM _).mono ?_; rintro e w3 ⟨rfl, b3⟩; (have B3 : Hid (Below W1.heap.size W1 w3) := bel_of B2.out b3 (Nat.le_refl _)); clear b3 s0 s1 s2))
      go_ret2
      exact (HPU.out _ _).2 ⟨.slice none 0 0, by rw [HE.out]; rfl, by rw [HE.out]; exact Vs.nil _, bel_of B1.out B3.out (Nat.le_refl _)⟩
end Go.Proofs.YtaahmnkfjkbliaaDoor

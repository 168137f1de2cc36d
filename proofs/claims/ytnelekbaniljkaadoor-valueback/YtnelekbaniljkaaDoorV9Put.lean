/-
  Package value's Put: what it comes to.
-/
import Derived.Test.YtnelekbaniljkaaDoorV9Grw
namespace Go.Proofs.YtnelekbaniljkaaDoor
open Go.RowKit Go.Shelf Go.Sort
open Go.Lib hiding intOf

theorem put_parts {l : List Vr} {k : ByteArray} (x : V9) : put l k x = l.take (pos l k) ++ ([(k, x)] ++ l.drop (pos l k + if has l k then 1 else 0)) := by
  unfold put
  cases h : has l k with
  | true =>
    obtain ⟨hp, -⟩ := has_lt h
    rw [if_pos rfl, if_pos rfl, List.set_eq_take_append_cons_drop, if_pos hp]
    rfl
  | false => rw [if_neg (by simp), if_neg (by simp)]; rfl
theorem Vs.take {w : World} {a : Option Addr} {cap : Nat} {l : List Vr} (h : Vs w (.slice a l.length cap) l) {p : Nat} (hp : p ≤ l.length) : Vs w (.slice a p cap) (l.take p) := by
  obtain ⟨a', c', e, hc, h⟩ := h
  cases e
  have hl : (l.take p).length = p := by rw [List.length_take]; omega
  refine ⟨a, cap, by rw [hl], ⟨by rw [hl]; omega, hc.2⟩, ?_⟩
  rcases h with rfl | ⟨b, off, rfl, hlt, hcell⟩
  · exact .inl (by simp)
  · refine .inr ⟨b, off, rfl, hlt, fun j hj => ?_⟩
    rw [hl] at hj
    have := hcell j (by omega)
    simpa using this
theorem Vs.drop {w : World} {ad : Addr} {cap : Nat} {l : List Vr} (h : Vs w (.slice (some ad) l.length cap) l) {q : Nat} (hq : q ≤ l.length) : Vs w (.slice (if cap = q then some ad else some (ad.add (q * 4))) (l.length - q) (cap - q)) (l.drop q) := by
  obtain ⟨a', c', e, hc, h⟩ := h
  cases e
  have hl : (l.drop q).length = l.length - q := List.length_drop
  by_cases hql : q < l.length
  · rw [if_neg (by omega)]
    rcases h with rfl | ⟨b', off', e, hlt, hcell⟩
    · simp at hql
    · cases e
      refine ⟨_, cap - q, by rw [hl], ⟨by rw [hl]; omega, fun e => by cases e⟩, .inr ⟨b', off' + q * 4, by rw [Addr.add_lit], hlt, fun j hj => ?_⟩⟩
      rw [hl] at hj
      have := hcell (q + j) (by omega)
      rw [show off' + q * 4 + j * 4 = off' + (q + j) * 4 by omega]
      simpa using this
  · refine ⟨_, cap - q, by rw [hl], ⟨by rw [hl]; omega, fun e => ?_⟩, .inl (List.drop_of_length_le (by omega))⟩
    split at e <;> cases e
theorem pt3 {w : World} {b : Nat} {u0 u1 u2 : Value} {l0 l1 l2 : List Vr} (hb : b < w.heap.size) (c0 : w.cell? ⟨b, 0, none⟩ = some u0) (c1 : w.cell? ⟨b, 1, none⟩ = some u1) (c2 : w.cell? ⟨b, 2, none⟩ = some u2) (h0 : Vs w u0 l0) (h1 : Vs w u1 l1) (h2 : Vs w u2 l2) : Pt w b [(u0, l0), (u1, l1), (u2, l2)] := by
  refine ⟨hb, fun j hj => ?_, fun j hj => ?_⟩
  · match j, hj with
    | 0, _ => exact c0
    | 1, _ => exact c1
    | 2, _ => exact c2
  · match j, hj with
    | 0, _ => exact h0
    | 1, _ => exact h1
    | 2, _ => exact h2

theorem concat3 {w4 : World} {k : ByteArray} {xk xn : Int} {xs : List UInt8} {u0 u2 : Value} {l0 l2 : List Vr} (h0 : Vs w4 u0 l0) (h2 : Vs w4 u2 l2) (hb : l0.length + l2.length ≤ 900) :
    Calls Tryd.prog 50 #[.slice (some ⟨w4.heap.size + 1, 0, none⟩) 3 3] (((w4.alloc (.cells #[.string k, .int .i64 xk, .int .i64 xn, .string (S xs)] 49)).alloc (.cells #[u0, .slice (some ⟨w4.heap.size, 0, none⟩) 1 1, u2] 24)).drew) fun e w' => ∃ v', e = .returned v' ∧ Vs w' v' (l0 ++ ([(k, xk, xn, xs)] ++ l2)) ∧ Below w4.heap.size w4 w' := by
  have B1 : Below w4.heap.size w4 (((w4.alloc (.cells #[.string k, .int .i64 xk, .int .i64 xn, .string (S xs)] 49)).alloc (.cells #[u0, .slice (some ⟨w4.heap.size, 0, none⟩) 1 1, u2] 24)).drew) := ((((Below.refl _ w4).alloc (Nat.le_refl _) _).alloc (by simp) _).drew)
  have v1 : Vs (((w4.alloc (.cells #[.string k, .int .i64 xk, .int .i64 xn, .string (S xs)] 49)).alloc (.cells #[u0, .slice (some ⟨w4.heap.size, 0, none⟩) 1 1, u2] 24)).drew) (.slice (some ⟨w4.heap.size, 0, none⟩) 1 1) [(k, xk, xn, xs)] := by
    have B2 : Below (w4.alloc (.cells #[.string k, .int .i64 xk, .int .i64 xn, .string (S xs)] 49)).heap.size (w4.alloc (.cells #[.string k, .int .i64 xk, .int .i64 xn, .string (S xs)] 49)) (((w4.alloc (.cells #[.string k, .int .i64 xk, .int .i64 xn, .string (S xs)] 49)).alloc (.cells #[u0, .slice (some ⟨w4.heap.size, 0, none⟩) 1 1, u2] 24)).drew) := ((Below.refl _ _).alloc (Nat.le_refl _) _).drew
    refine Vs.up (w := w4.alloc (.cells #[.string k, .int .i64 xk, .int .i64 xn, .string (S xs)] 49)) ?_ B2
    refine ⟨some ⟨w4.heap.size, 0, none⟩, 1, rfl, ⟨Nat.le_refl _, fun e => by cases e⟩, .inr ⟨w4.heap.size, 0, rfl, by simp, fun j hj => ?_⟩⟩
    match j, hj with
    | 0, _ => exact ⟨World.cell?_alloc_new _ _ _ _, World.cell?_alloc_new _ _ _ _, World.cell?_alloc_new _ _ _ _, World.cell?_alloc_new _ _ _ _⟩
  have hc : ∀ i, (((w4.alloc (.cells #[.string k, .int .i64 xk, .int .i64 xn, .string (S xs)] 49)).alloc (.cells #[u0, .slice (some ⟨w4.heap.size, 0, none⟩) 1 1, u2] 24)).drew).cell? ⟨w4.heap.size + 1, i, none⟩ = (#[u0, .slice (some ⟨w4.heap.size, 0, none⟩) 1 1, u2] : Array Value)[i]? := fun i => by
    have := World.cell?_alloc_new (w4.alloc (.cells #[.string k, .int .i64 xk, .int .i64 xn, .string (S xs)] 49)) #[u0, .slice (some ⟨w4.heap.size, 0, none⟩) 1 1, u2] 24 i
    rw [World.size_alloc] at this
    exact this
  have hP := pt3 (u0 := u0) (u1 := .slice (some ⟨w4.heap.size, 0, none⟩) 1 1) (u2 := u2) (b := w4.heap.size + 1) (by simp) (hc 0) (hc 1) (hc 2) (h0.up B1) v1 (h2.up B1)
  have hcat : cat9 [(u0, l0), (.slice (some ⟨w4.heap.size, 0, none⟩) 1 1, [(k, xk, xn, xs)]), (u2, l2)] = l0 ++ ([(k, xk, xn, xs)] ++ l2) := by simp [cat9]
  have htot : tot [(u0, l0), (.slice (some ⟨w4.heap.size, 0, none⟩) 1 1, [(k, xk, xn, xs)]), (u2, l2)] = l0.length + (1 + l2.length) := by simp [tot]
  refine (Concat_any (cap := 3) hP (by simp) (by rw [htot]; omega) (by rw [htot]; omega)).mono ?_
  rintro e w' ⟨v', he, hr, hbw⟩
  rw [hcat] at hr
  exact ⟨v', he, Vs.row hr, B1.trans (hbw.mono B1.size)⟩

/-- what Put leaves -/
def PuR (w : World) (l : List Vr) (k : ByteArray) (x : V9) (e : Ending) (w' : World) : Prop := ∃ v', e = .returned (.tuple #[v', .int .i64 ((putV l k x).2 : Int)]) ∧ Vs w' v' (putV l k x).1 ∧ Below w.heap.size w w'

set_option maxHeartbeats 4000000 in
set_option maxRecDepth 100000 in
theorem Put_any {w : World} {v : Value} {l : List Vr} (k : ByteArray) (x : V9) (hv : Vs w v l) (hn : l.length ≤ 4611686018427387) (hs : Sm9 l) (hk : k.size ≤ 140737488355328) :
    Calls Tryd.prog 24 #[v, .string k, vA x] w (PuR w l k x) := by
  have CM := May_any x
  have CN := Named_any k (by omega)
  have HV : Hid (Vs w v l) := hv
  have CR : ∀ W, Below w.heap.size w W → _ := fun W hW => Right_any (hv.up hW) (by omega) hs
  obtain ⟨xk, xn, xs⟩ := x
  have B1 : Hid (Below w.heap.size w (w.alloc (.cells #[.int .i64 xk, .int .i64 xn, .string (S xs)] 23))) := (Below.refl _ w).alloc (Nat.le_refl _) _
  obtain ⟨a, cap, rfl, hc, -⟩ := hv
  have CR1 := CR _ B1.out
  have HPU : Hid (∀ e w', PuR w l k (xk, xn, xs) e w' ↔ ∃ v', e = .returned (.tuple #[v', .int .i64 ((putV l k (xk, xn, xs)).2 : Int)]) ∧ Vs w' v' (putV l k (xk, xn, xs)).1 ∧ Below w.heap.size w w') := fun _ _ => Iff.rfl
  unfold vA at CM ⊢
  cases q1 : rgt l with
  | false =>
    rw [q1] at CR1
    have HE : Hid (putV l k (xk, xn, xs) = ([], 1)) := by show _ = _; unfold putV; rw [q1]; rfl
    go_enter Tryd.func24, Tryd.ntmps24
    go_wp2_with (go_at_call 10; refine CR1.mono ?_; rintro e w1 ⟨rfl, b1⟩; (have B2 : Hid (Below w.heap.size w w1) := bel_of B1.out b1 (Nat.le_refl _)); clear b1)
    go_ret2
    exact (HPU.out _ _).2 ⟨.slice none 0 0, by rw [HE.out]; rfl, by rw [HE.out]; exact Vs.nil _, B2.out⟩
  | true =>
    rw [q1] at CR1
    have hr := rgt_iff.1 q1
    cases q2 : namV k.data.toList with
    | false =>
      rw [q2] at CN
      have HE : Hid (putV l k (xk, xn, xs) = ([], 1)) := by show _ = _; unfold putV; rw [q1, q2]; rfl
      go_enter Tryd.func24, Tryd.ntmps24
      go_wp2_with (first
        | (go_at_call 10; refine CR1.mono ?_; rintro e w1 ⟨rfl, b1⟩; (have B2 : Hid (Below w.heap.size w w1) := bel_of B1.out b1 (Nat.le_refl _)); clear b1)
        | (go_at_call 8; refine (CN _).mono ?_; rintro e w2 ⟨rfl, hw2⟩; rw [hw2]; clear hw2 w2))
      go_ret2
      exact (HPU.out _ _).2 ⟨.slice none 0 0, by rw [HE.out]; rfl, by rw [HE.out]; exact Vs.nil _, B2.out⟩
    | true =>
      rw [q2] at CN
      cases q3 : mayV (xk, xn, xs) with
      | false =>
        rw [q3] at CM
        have HE : Hid (putV l k (xk, xn, xs) = ([], 1)) := by show _ = _; unfold putV; rw [q1, q2, q3]; rfl
        go_enter Tryd.func24, Tryd.ntmps24
        go_wp2_with (first
          | (go_at_call 10; refine CR1.mono ?_; rintro e w1 ⟨rfl, b1⟩; (have B2 : Hid (Below w.heap.size w w1) := bel_of B1.out b1 (Nat.le_refl _)); (have c0 := (b1.cell (p := ⟨w.heap.size, 0, none⟩) (by simp)).trans (World.cell?_alloc_new _ _ _ _)); (have c1 := (b1.cell (p := ⟨w.heap.size, 1, none⟩) (by simp)).trans (World.cell?_alloc_new _ _ _ _)); (have c2 := (b1.cell (p := ⟨w.heap.size, 2, none⟩) (by simp)).trans (World.cell?_alloc_new _ _ _ _)); clear b1)
          | (go_at_call 8; refine (CN _).mono ?_; rintro e w2 ⟨rfl, hw2⟩; rw [hw2]; clear hw2 w2)
          | (go_at_call 6; refine (CM _).mono ?_; rintro e w3 ⟨rfl, b3⟩; (have B3 : Hid (Below w.heap.size w w3) := bel_of B2.out b3 (Nat.le_refl _)); clear b3))
        go_ret2
        exact (HPU.out _ _).2 ⟨.slice none 0 0, by rw [HE.out]; rfl, by rw [HE.out]; exact Vs.nil _, B3.out⟩
      | true =>
        rw [q3] at CM
        have HE0 : Hid (putV l k (xk, xn, xs) = if has l k = false ∧ l.length = 16 then ([], 4) else (put l k (xk, xn, xs), 0)) := by show _ = _; unfold putV; rw [q1, q2, q3]; rfl
        have CS : ∀ W, Below w.heap.size w W → _ := fun W hW => Search_any k (HV.out.up hW) (by omega) hr.2.1
        have HPP := put_parts (l := l) (k := k) (xk, xn, xs)
        have hpl := pos_le l k
        have hhl : has l k = true → pos l k < l.length := fun h => (has_lt h).1
        cases q4 : has l k with
        | true =>
          rw [q4] at CS HPP HE0
          have hpl2 : pos l k + 1 ≤ l.length := hhl q4
          have HE : Hid (putV l k (xk, xn, xs) = (put l k (xk, xn, xs), 0)) := by show _ = _; rw [HE0.out, if_neg (fun h => by cases h.1)]
          clear HE0 hhl
          have HCS : Hid _ := CS
          clear CS
          obtain ⟨p, hp⟩ : ∃ p, pos l k = p := ⟨_, rfl⟩
          rw [hp] at HPP hpl HCS hpl2
          have hp0 : (0 : Int) ≤ (p : Int) := by omega
          have hpc : (p : Int) ≤ (cap : Int) := by omega
          have hpl' : (p : Int) ≤ (l.length : Int) := by omega
          have hcl' : (l.length : Int) ≤ (cap : Int) := by omega
          clear hp
          have hq0 : (0 : Int) ≤ (p : Int) + 1 := by omega
          have hq1 : (p : Int) + 1 ≤ (l.length : Int) := by omega
          have CS2 := HCS
          go_enter Tryd.func24, Tryd.ntmps24
          go_wp2_with (first
            | (go_at_call 10; refine CR1.mono ?_; rintro e w1 ⟨rfl, b1⟩; (have B2 : Hid (Below w.heap.size w w1) := bel_of B1.out b1 (Nat.le_refl _)); (have c0 := (b1.cell (p := ⟨w.heap.size, 0, none⟩) (by simp)).trans (World.cell?_alloc_new _ _ _ _)); (have c1 := (b1.cell (p := ⟨w.heap.size, 1, none⟩) (by simp)).trans (World.cell?_alloc_new _ _ _ _)); (have c2 := (b1.cell (p := ⟨w.heap.size, 2, none⟩) (by simp)).trans (World.cell?_alloc_new _ _ _ _)); (have hz1 : w.heap.size < w1.heap.size := by have := b1.size; rw [World.size_alloc] at this; omega); clear b1)
            | (go_at_call 8; refine (CN _).mono ?_; rintro e w2 ⟨rfl, hw2⟩; rw [hw2]; clear hw2 w2)
            | (go_at_call 6; refine (CM _).mono ?_; rintro e w3 ⟨rfl, b3⟩; (have B3 : Hid (Below w.heap.size w w3) := bel_of B2.out b3 (Nat.le_refl _)); have CS3 := HCS.out w3 B3.out; (have d0 := (b3.cell (p := ⟨w.heap.size, 0, none⟩) hz1).trans c0); (have d1 := (b3.cell (p := ⟨w.heap.size, 1, none⟩) hz1).trans c1); (have d2 := (b3.cell (p := ⟨w.heap.size, 2, none⟩) hz1).trans c2); (have hz3 : w.heap.size < w3.heap.size := by have := b3.size; omega); clear b3)
            | (go_at_call 47; refine CS3.mono ?_; rintro e w4 ⟨rfl, b4⟩; (have B4 : Hid (Below w.heap.size w w4) := bel_of B3.out b4 (Nat.le_refl _)); (have f0 := (b4.cell (p := ⟨w.heap.size, 0, none⟩) hz3).trans d0); (have f1 := (b4.cell (p := ⟨w.heap.size, 1, none⟩) hz3).trans d1); (have f2 := (b4.cell (p := ⟨w.heap.size, 2, none⟩) hz3).trans d2); (have hz4 : w.heap.size < w4.heap.size := by have := b4.size; omega); clear b4 c0 c1 c2 d0 d1 d2 hz1 hz3 CS3))
          have VB := HV.out.up B4.out
          cases a with
          | none =>
            have hcp0 := hc.2 rfl
            exfalso
            omega
          | some ad =>
            have CC := concat3 (w4 := w4) (k := k) (xk := xk) (xn := xn) (xs := xs) (VB.take hpl) (VB.drop hpl2) (by rw [List.length_take, List.length_drop]; omega)
            by_cases hcq : cap = p + 1
            · rw [if_pos hcq] at CC
              have hcd := eq_true hcq
              clear hcq
              go_region_held3 (fun w' => w'.cell? ⟨w.heap.size, 0, none⟩ = some (.int .i64 xk) ∧ w'.cell? ⟨w.heap.size, 1, none⟩ = some (.int .i64 xn) ∧ w'.cell? ⟨w.heap.size, 2, none⟩ = some (.string (S xs)))
                (first
                  | go_keep
                  | exact ⟨k0, k1, k2⟩)
                ((go_at_call 50
                  refine CC.mono ?_
                  rintro e w5 ⟨v5, rfl, h5, b5⟩
                  have k0 := (b5.cell (p := ⟨w.heap.size, 0, none⟩) hz4).trans f0
                  have k1 := (b5.cell (p := ⟨w.heap.size, 1, none⟩) hz4).trans f1
                  have k2 := (b5.cell (p := ⟨w.heap.size, 2, none⟩) hz4).trans f2
                  have H5 : Hid (PuR w l k (xk, xn, xs) (.returned (.tuple #[v5, .int .i64 0])) w5) := (HPU.out _ _).2 ⟨v5, by rw [HE.out]; rfl, by rw [HE.out, HPP]; exact h5, bel_of B4.out b5 (Nat.le_refl _)⟩
                  clear h5 b5))
              go_wp2
              go_ret2
              exact H5.out
            · rw [if_neg hcq] at CC
              have hcd := eq_false hcq
              clear hcq
              go_region_held3 (fun w' => w'.cell? ⟨w.heap.size, 0, none⟩ = some (.int .i64 xk) ∧ w'.cell? ⟨w.heap.size, 1, none⟩ = some (.int .i64 xn) ∧ w'.cell? ⟨w.heap.size, 2, none⟩ = some (.string (S xs)))
                (first
                  | go_keep
                  | exact ⟨k0, k1, k2⟩)
                ((go_at_call 50
                  refine CC.mono ?_
                  rintro e w5 ⟨v5, rfl, h5, b5⟩
                  have k0 := (b5.cell (p := ⟨w.heap.size, 0, none⟩) hz4).trans f0
                  have k1 := (b5.cell (p := ⟨w.heap.size, 1, none⟩) hz4).trans f1
                  have k2 := (b5.cell (p := ⟨w.heap.size, 2, none⟩) hz4).trans f2
                  have H5 : Hid (PuR w l k (xk, xn, xs) (.returned (.tuple #[v5, .int .i64 0])) w5) := (HPU.out _ _).2 ⟨v5, by rw [HE.out]; rfl, by rw [HE.out, HPP]; exact h5, bel_of B4.out b5 (Nat.le_refl _)⟩
                  clear h5 b5))
              go_wp2
              go_ret2
              exact H5.out
        | false =>
          rw [q4] at CS HPP HE0
          by_cases q5 : l.length = 16
          · have q5' : ((l.length : Int) == 16) = true := by rw [q5]; rfl
            have HE : Hid (putV l k (xk, xn, xs) = ([], 4)) := by show _ = _; rw [HE0.out, if_pos ⟨rfl, q5⟩]
            clear HPP HE0 q5 hpl
            have HCS : Hid _ := CS
            clear CS
            go_enter Tryd.func24, Tryd.ntmps24
            go_wp2_with (first
              | (go_at_call 10; refine CR1.mono ?_; rintro e w1 ⟨rfl, b1⟩; (have B2 : Hid (Below w.heap.size w w1) := bel_of B1.out b1 (Nat.le_refl _)); (have c0 := (b1.cell (p := ⟨w.heap.size, 0, none⟩) (by simp)).trans (World.cell?_alloc_new _ _ _ _)); (have c1 := (b1.cell (p := ⟨w.heap.size, 1, none⟩) (by simp)).trans (World.cell?_alloc_new _ _ _ _)); (have c2 := (b1.cell (p := ⟨w.heap.size, 2, none⟩) (by simp)).trans (World.cell?_alloc_new _ _ _ _)); clear b1)
              | (go_at_call 8; refine (CN _).mono ?_; rintro e w2 ⟨rfl, hw2⟩; rw [hw2]; clear hw2 w2)
              | (go_at_call 6; refine (CM _).mono ?_; rintro e w3 ⟨rfl, b3⟩; (have B3 : Hid (Below w.heap.size w w3) := bel_of B2.out b3 (Nat.le_refl _)); have CS3 := HCS.out w3 B3.out; clear b3)
              | (go_at_call 47; refine CS3.mono ?_; rintro e w4 ⟨rfl, b4⟩; (have B4 : Hid (Below w.heap.size w w4) := bel_of B3.out b4 (Nat.le_refl _)); clear b4))
            go_ret2
            exact (HPU.out _ _).2 ⟨.slice none 0 0, by rw [HE.out]; rfl, by rw [HE.out]; exact Vs.nil _, B4.out⟩
          · have q5' : ((l.length : Int) == 16) = false := beq_eq_false_iff_ne.2 (by omega)
            have HE : Hid (putV l k (xk, xn, xs) = (put l k (xk, xn, xs), 0)) := by show _ = _; rw [HE0.out, if_neg (fun h => q5 h.2)]
            clear HE0 q5
            have HCS : Hid _ := CS
            clear CS
            obtain ⟨p, hp⟩ : ∃ p, pos l k = p := ⟨_, rfl⟩
            rw [hp] at HPP hpl HCS
            have hp0 : (0 : Int) ≤ (p : Int) := by omega
            have hpc : (p : Int) ≤ (cap : Int) := by omega
            have hpl' : (p : Int) ≤ (l.length : Int) := by omega
            have hcl' : (l.length : Int) ≤ (cap : Int) := by omega
            clear hp
            have CS2 := HCS
            go_enter Tryd.func24, Tryd.ntmps24
            go_wp2_with (first
              | (go_at_call 10; refine CR1.mono ?_; rintro e w1 ⟨rfl, b1⟩; (have B2 : Hid (Below w.heap.size w w1) := bel_of B1.out b1 (Nat.le_refl _)); (have c0 := (b1.cell (p := ⟨w.heap.size, 0, none⟩) (by simp)).trans (World.cell?_alloc_new _ _ _ _)); (have c1 := (b1.cell (p := ⟨w.heap.size, 1, none⟩) (by simp)).trans (World.cell?_alloc_new _ _ _ _)); (have c2 := (b1.cell (p := ⟨w.heap.size, 2, none⟩) (by simp)).trans (World.cell?_alloc_new _ _ _ _)); (have hz1 : w.heap.size < w1.heap.size := by have := b1.size; rw [World.size_alloc] at this; omega); clear b1)
              | (go_at_call 8; refine (CN _).mono ?_; rintro e w2 ⟨rfl, hw2⟩; rw [hw2]; clear hw2 w2)
              | (go_at_call 6; refine (CM _).mono ?_; rintro e w3 ⟨rfl, b3⟩; (have B3 : Hid (Below w.heap.size w w3) := bel_of B2.out b3 (Nat.le_refl _)); have CS3 := HCS.out w3 B3.out; (have d0 := (b3.cell (p := ⟨w.heap.size, 0, none⟩) hz1).trans c0); (have d1 := (b3.cell (p := ⟨w.heap.size, 1, none⟩) hz1).trans c1); (have d2 := (b3.cell (p := ⟨w.heap.size, 2, none⟩) hz1).trans c2); (have hz3 : w.heap.size < w3.heap.size := by have := b3.size; omega); clear b3)
              | (go_at_call 47; refine CS3.mono ?_; rintro e w4 ⟨rfl, b4⟩; (have B4 : Hid (Below w.heap.size w w4) := bel_of B3.out b4 (Nat.le_refl _)); (have f0 := (b4.cell (p := ⟨w.heap.size, 0, none⟩) hz3).trans d0); (have f1 := (b4.cell (p := ⟨w.heap.size, 1, none⟩) hz3).trans d1); (have f2 := (b4.cell (p := ⟨w.heap.size, 2, none⟩) hz3).trans d2); (have hz4 : w.heap.size < w4.heap.size := by have := b4.size; omega); clear b4 c0 c1 c2 d0 d1 d2 hz1 hz3 CS3))
            have VB := HV.out.up B4.out
            cases a with
            | none =>
              have hcp0 := hc.2 rfl
              have hl0 : l = [] := List.eq_nil_of_length_eq_zero (by omega)
              subst hl0
              subst hcp0
              obtain rfl : p = 0 := by simpa using hpl
              have CC := concat3 (w4 := w4) (k := k) (xk := xk) (xn := xn) (xs := xs) (Vs.nil w4) (Vs.nil w4) (by simp)
              go_region_held3 (fun w' => w'.cell? ⟨w.heap.size, 0, none⟩ = some (.int .i64 xk) ∧ w'.cell? ⟨w.heap.size, 1, none⟩ = some (.int .i64 xn) ∧ w'.cell? ⟨w.heap.size, 2, none⟩ = some (.string (S xs)))
                (first
                  | go_keep
                  | exact ⟨k0, k1, k2⟩)
                ((go_at_call 50
                  refine CC.mono ?_
                  rintro e w5 ⟨v5, rfl, h5, b5⟩
                  have k0 := (b5.cell (p := ⟨w.heap.size, 0, none⟩) hz4).trans f0
                  have k1 := (b5.cell (p := ⟨w.heap.size, 1, none⟩) hz4).trans f1
                  have k2 := (b5.cell (p := ⟨w.heap.size, 2, none⟩) hz4).trans f2
                  have H5 : Hid (PuR w [] k (xk, xn, xs) (.returned (.tuple #[v5, .int .i64 0])) w5) := (HPU.out _ _).2 ⟨v5, by rw [HE.out]; rfl, by rw [HE.out, HPP]; exact h5, bel_of B4.out b5 (Nat.le_refl _)⟩
                  clear h5 b5))
              go_wp2
              go_ret2
              exact H5.out
            | some ad =>
              have CC := concat3 (w4 := w4) (k := k) (xk := xk) (xn := xn) (xs := xs) (VB.take hpl) (VB.drop hpl) (by rw [List.length_take, List.length_drop]; omega)
              by_cases hcq : cap = p
              · rw [if_pos hcq] at CC
                have hcd := eq_true hcq
                clear hcq
                go_region_held3 (fun w' => w'.cell? ⟨w.heap.size, 0, none⟩ = some (.int .i64 xk) ∧ w'.cell? ⟨w.heap.size, 1, none⟩ = some (.int .i64 xn) ∧ w'.cell? ⟨w.heap.size, 2, none⟩ = some (.string (S xs)))
                  (first
                    | go_keep
                    | exact ⟨k0, k1, k2⟩)
                  ((go_at_call 50
                    refine CC.mono ?_
                    rintro e w5 ⟨v5, rfl, h5, b5⟩
                    have k0 := (b5.cell (p := ⟨w.heap.size, 0, none⟩) hz4).trans f0
                    have k1 := (b5.cell (p := ⟨w.heap.size, 1, none⟩) hz4).trans f1
                    have k2 := (b5.cell (p := ⟨w.heap.size, 2, none⟩) hz4).trans f2
                    have H5 : Hid (PuR w l k (xk, xn, xs) (.returned (.tuple #[v5, .int .i64 0])) w5) := (HPU.out _ _).2 ⟨v5, by rw [HE.out]; rfl, by rw [HE.out, HPP]; exact h5, bel_of B4.out b5 (Nat.le_refl _)⟩
                    clear h5 b5))
                go_wp2
                go_ret2
                exact H5.out
              · rw [if_neg hcq] at CC
                have hcd := eq_false hcq
                clear hcq
                go_region_held3 (fun w' => w'.cell? ⟨w.heap.size, 0, none⟩ = some (.int .i64 xk) ∧ w'.cell? ⟨w.heap.size, 1, none⟩ = some (.int .i64 xn) ∧ w'.cell? ⟨w.heap.size, 2, none⟩ = some (.string (S xs)))
                  (first
                    | go_keep
                    | exact ⟨k0, k1, k2⟩)
                  ((go_at_call 50
                    refine CC.mono ?_
                    rintro e w5 ⟨v5, rfl, h5, b5⟩
                    have k0 := (b5.cell (p := ⟨w.heap.size, 0, none⟩) hz4).trans f0
                    have k1 := (b5.cell (p := ⟨w.heap.size, 1, none⟩) hz4).trans f1
                    have k2 := (b5.cell (p := ⟨w.heap.size, 2, none⟩) hz4).trans f2
                    have H5 : Hid (PuR w l k (xk, xn, xs) (.returned (.tuple #[v5, .int .i64 0])) w5) := (HPU.out _ _).2 ⟨v5, by rw [HE.out]; rfl, by rw [HE.out, HPP]; exact h5, bel_of B4.out b5 (Nat.le_refl _)⟩
                    clear h5 b5))
                go_wp2
                go_ret2
                exact H5.out
end Go.Proofs.YtnelekbaniljkaaDoor

/-
  Proved: for every slice of names and every value ValueFull answers true, and changes nothing that was there before the call: one can put in as many variables as may be, and no more of other names; those that are there can be put again. The program's own tables are as its text lays them (the card's tie).
-/
import Derived.Test.YtaahmnkfjkbliabDoorV9Args
import Derived.Test.YtaahmnkfjkbliabDoorV9Get
import Derived.Deep.RegionHeld3
namespace Go.Proofs.YtaahmnkfjkbliabDoor.valueFull
open Go.RowKit Go.Shelf Go.Sort
open Go.Lib hiding intOf

/-- v is a slice of these names -/
def Ns (w : World) (v : Value) (l : List ByteArray) : Prop := ∃ a cap, v = .slice a l.length cap ∧ (l = [] ∨ ∃ b off, a = some ⟨b, off, none⟩ ∧ b < w.heap.size ∧ ∀ (j : Nat) (h : j < l.length), w.cell? ⟨b, off + j, none⟩ = some (.string l[j]))
theorem Ns.at {w : World} {v : Value} {l : List ByteArray} (h : Ns w v l) {i : Nat} (hi : i < l.length) : ∃ b off cap, v = .slice (some ⟨b, off, none⟩) l.length cap ∧ b < w.heap.size ∧ ∀ w', Below w.heap.size w w' → w'.cell? ⟨b, off + i, none⟩ = some (.string l[i]) := by
  obtain ⟨a, cap, rfl, h⟩ := h
  rcases h with rfl | ⟨b, off, rfl, hlt, hc⟩
  · cases hi
  · exact ⟨b, off, cap, rfl, hlt, fun w' hb => (hb.cell (p := ⟨b, off + i, none⟩) hlt).trans (hc i hi)⟩
theorem get_has {l : List Vr} (k : ByteArray) (hr : Rise l) : (getV l k).2 = has l k := by
  rcases get_ways l k with ⟨i, hi, h1, h2, h3⟩ | ⟨h1, h3⟩
  · rw [h3]
    have hp : pos l k = i := by
      have hle : pos l k ≤ i := by
        rcases Nat.lt_or_ge i (pos l k) with h | h
        · have := (pos_lt l k i hr hi).2 h
          rw [h1, lt_irrefl] at this; cases this
        · exact h
      rcases Nat.lt_or_ge (pos l k) i with h | h
      · exfalso
        have hpl : pos l k < l.length := by omega
        have h4 : ¬ lt l[pos l k].1 k = true := fun h => by have := (pos_lt l k (pos l k) hr hpl).1 h; omega
        have h5 := hr.get (i := pos l k) (j := i) hpl hi h
        rw [h1] at h5
        exact h4 h5
      · omega
    subst hp
    simp only [has, List.getElem?_eq_getElem hi, h1]
    simp
  · rw [h3]
    cases hh : has l k with
    | false => rfl
    | true =>
      obtain ⟨hp, he⟩ := has_lt hh
      exact absurd he (h1 _ (List.getElem_mem hp))
theorem put_mem {l : List Vr} {k : ByteArray} {x : V9} {y : Vr} (h : y ∈ put l k x) : y ∈ l ∨ y = (k, x) := by
  rw [put_parts] at h
  rcases List.mem_append.1 h with h | h
  · exact .inl (List.mem_of_mem_take h)
  · rcases List.mem_append.1 h with h | h
    · exact .inr (by simpa using h)
    · exact .inl (List.mem_of_mem_drop h)
theorem put_right {l : List Vr} {k : ByteArray} {x : V9} (hr : rgt l = true) (hk : namV k.data.toList = true) (hm : mayV x = true) (hl : has l k = true ∨ l.length ≠ 16) : rgt (put l k x) = true := by
  obtain ⟨h1, h2, h3⟩ := rgt_iff.1 hr
  refine rgt_iff.2 ⟨?_, put_rise h2 k x, fun y hy => ?_⟩
  · rw [put_len]
    split
    · exact h1
    · rename_i hh
      rcases hl with hl | hl
      · exact absurd hl hh
      · omega
  · rcases put_mem hy with h | rfl
    · exact h3 y h
    · unfold okV; rw [hk, hm]; rfl
theorem sm_of {l : List Vr} (hr : rgt l = true) (hv : ∀ x ∈ l, Vk x.2) : Sm9 l := fun x hx => by
  have h := (rgt_iff.1 hr).2.2 x hx
  unfold okV at h
  simp only [Bool.and_eq_true] at h
  refine ⟨?_, hv x hx⟩
  have := nam_len h.1
  simp at this
  omega

open Go.ChangeShapes Go.WideShapes Go.ChangeAt Go.WideMaps Go.WideElems in
set_option maxRecDepth 100000 in
theorem openNames {H : Type} {enc : TypeId × Value → H} {W : World} {v : Value} {d : DataW H} {p : List MemPlace} {base : Nat} (hok : Value.okWide Tryd.prog W .any base 22 v)
    (h : DataW.Trod enc Tryd.prog W 0 (fun _ => true) true 22 v d p) : ∃ ls, Ns W v ls ∧ ((d.weights Tryd.prog 22).all (· ≤ reachBytes) = true → ls.length ≤ 140737488355328 ∧ ∀ s ∈ ls, s.size ≤ 140737488355328) := by
  obtain ⟨a0, len0, cap0, rfl⟩ := okWide_slice Tryd.underlying22 hok
  obtain ⟨fuel, hf⟩ := h
  have hf' : DataW.trod enc Tryd.prog W 0 (fun _ => true) true fuel 22 [.slice a0 len0 cap0] = some (d, p) := hf
  rcases open_strings Tryd.underlying22 Tryd.underlying9 (by kernel_rfl) hf' with ⟨hcs, hx⟩ | ⟨x, len1, cap1, ss, hcs, _, hl, hm, hz, hx, hcell, hws⟩
  · simp at hcs
    obtain ⟨rfl, rfl, rfl⟩ := hcs
    exact ⟨[], ⟨none, 0, rfl, .inl rfl⟩, fun _ => ⟨by simp, fun s hs => by cases hs⟩⟩
  · simp at hcs
    obtain ⟨rfl, rfl, rfl⟩ := hcs
    have hsl : ss.length = cap0 := by simpa using hz
    have hlen : (ss.take len0).length = len0 := by simp; omega
    refine ⟨ss.take len0, ⟨some x, cap0, by rw [hlen], ?_⟩, fun hw => ?_⟩
    · by_cases h0 : len0 = 0
      · left; subst h0; simp
      · right
        obtain ⟨b, off, spot⟩ := x
        have hc := hcell 0 (by omega)
        have hspot : spot = none := by simpa [Addr.add] using World.cell?_spot hc
        subst hspot
        refine ⟨b, off, rfl, ?_, fun j hj => ?_⟩
        · have hc0 : W.cell? ⟨b, off, none⟩ = some (.string (ss.getD 0 ByteArray.empty)) := by simpa [Addr.add] using hc
          exact World.block_lt_of_cell? _ _ hc0
        · rw [hlen] at hj
          have hcj := hcell j (by omega)
          rw [Addr.add_lit] at hcj
          rw [hcj]
          have hjs : j < ss.length := by omega
          simp [List.getD, hjs]
    · have hd : d = .slice (strs (ss.take len0)) (strs (ss.drop len0)) := (Prod.mk.inj hx).1
      subst hd
      simp only [DataW.weights, Tryd.underlying22, List.all_cons, Bool.and_eq_true, decide_eq_true_eq, List.all_append, List.length_map, strs] at hw
      have hb : Tryd.prog.bytesOf 9 = 16 := by kernel_rfl
      rw [hb] at hw
      have hr : reachBytes = 140737488351232 := rfl
      refine ⟨by rw [hlen]; rw [hlen] at hw; omega, fun s hs => ?_⟩
      have hmem : (DataW.lit (.string s.data.toList) : DataW H) ∈ (ss.take len0).map (fun s => DataW.lit (.string s.data.toList)) := List.mem_map.2 ⟨s, hs, rfl⟩
      have key : ∀ (l : List (DataW H)) (y : DataW H), y ∈ l → ∀ n ∈ y.weights Tryd.prog 9, n ∈ DataW.weightsAll Tryd.prog 9 l := by
        intro l
        induction l with
        | nil => intro y hy; cases hy
        | cons z r ih =>
          intro y hy n hn
          rw [DataW.weightsAll, List.mem_append]
          rcases List.mem_cons.1 hy with rfl | hy
          · exact .inl hn
          · exact .inr (ih y hy n hn)
      have q1 := of_decide_eq_true (List.all_eq_true.1 hw.2.1 _ (key _ _ hmem s.data.toList.length (by simp [DataW.weights])))
      simp at q1
      omega

/-- what stands in the loop -/
structure Lp (w wr : World) (L : List Vr) (v : Value) : Prop where
  vs : Vs wr v L
  rg : rgt L = true
  vk : ∀ x ∈ L, Vk x.2
  bw : Below w.heap.size w wr

set_option maxHeartbeats 20000000 in
set_option maxRecDepth 100000 in
theorem walk (x : V9) {w : World} {v : Value} {ls : List ByteArray} (hns : Ns w v ls) (hs : ls.length ≤ 140737488355328 ∧ ∀ s ∈ ls, s.size ≤ 140737488355328) (hk : Vk x) (hg : Gv w.heap.size w) :
    Calls Tryd.prog 3 #[v, vA x] w fun e w' => e = .returned (.bool true) ∧ Below w.heap.size w w' := by
  have CM := dMay_any x
  have HPT : Hid (∀ W v L k, Vs W v L → rgt L = true → (∀ y ∈ L, Vk y.2) → k.size ≤ 140737488355328 → Calls Tryd.prog 8 #[v, .string k, vA x] W (PuR W L k x)) := fun W v L k h1 h2 h3 h4 => Put_any k x h1 (by have := (rgt_iff.1 h2).1; omega) (sm_of h2 h3) h4
  have HPV : Hid (∀ L k, rgt L = true → (namV k.data.toList = false → putV L k x = ([], 1)) ∧ (mayV x = true → namV k.data.toList = true → (has L k = false → L.length = 16 → putV L k x = ([], 4)) ∧ ((has L k = true ∨ L.length ≠ 16) → putV L k x = (put L k x, 0)))) := fun L k hr => ⟨fun h => by unfold putV; rw [hr, h]; rfl, fun hm h => ⟨fun h1 h2 => by unfold putV; rw [hr, h, hm, if_pos (by rfl), if_pos ⟨h1, h2⟩], fun h1 => by unfold putV; rw [hr, h, hm, if_pos (by rfl), if_neg (fun h2 => by rcases h1 with h1 | h1; rw [h1] at h2; cases h2.1; exact h1 h2.2)]⟩⟩
  have HK : Hid (Vk x) := hk
  cases hm : mayV x with
  | false =>
    rw [hm] at CM
    obtain ⟨x1, x2, x3⟩ := x
    have B0 : Hid (Below w.heap.size w (w.alloc (.cells #[.int .i64 x1, .int .i64 x2, .string (S x3)] 24))) := (Below.refl _ w).alloc (Nat.le_refl _) _
    have CS := shown9_any (hg.below B0.out) B0.out.size
    have hcx : ∀ i, (w.alloc (.cells #[.int .i64 x1, .int .i64 x2, .string (S x3)] 24)).cell? ⟨w.heap.size, i, none⟩ = (#[.int .i64 x1, .int .i64 x2, .string (S x3)] : Array Value)[i]? := fun i => World.cell?_alloc_new _ _ _ _
    unfold vA at CM ⊢
    obtain ⟨a, cap, rfl, -⟩ := hns
    go_enter Tryd.func3, Tryd.ntmps3
    go_wp2_with (first
      | (go_at_call 4; refine CS.mono ?_; rintro e w1 ⟨rfl, b1⟩; (have s0 := (b1.cell (p := ⟨w.heap.size, 0, none⟩) (by simp)).trans (hcx 0)); (have s1 := (b1.cell (p := ⟨w.heap.size, 1, none⟩) (by simp)).trans (hcx 1)); (have s2 := (b1.cell (p := ⟨w.heap.size, 2, none⟩) (by simp)).trans (hcx 2)); (have B1 : Hid (Below w.heap.size w w1) := bel_of B0.out b1 (Nat.le_refl _)); clear b1)
      | (go_at_call 5; refine (CM _).mono ?_; rintro e w2 ⟨rfl, b2⟩; (have B2 : Hid (Below w.heap.size w w2) := bel_of B1.out b2 (Nat.le_refl _)); clear b2))
    go_ret
    exact ⟨rfl, B2.out⟩
  | true =>
    rw [hm] at CM
    have HPV2 : Hid _ := fun L k (hr : rgt L = true) => (HPV.out L k hr).2 hm
    have HPV0 : Hid _ := fun L k (hr : rgt L = true) => (HPV.out L k hr).1
    obtain ⟨x1, x2, x3⟩ := x
    obtain ⟨W1, hW1⟩ : ∃ W1, w.alloc (.cells #[.int .i64 x1, .int .i64 x2, .string (S x3)] 24) = W1 := ⟨_, rfl⟩
    have B0 : Hid (Below w.heap.size w W1) := by rw [← hW1]; exact (Below.refl _ w).alloc (Nat.le_refl _) _
    have CS := shown9_any (hg.below B0.out) B0.out.size
    have hcx : ∀ i, W1.cell? ⟨w.heap.size, i, none⟩ = (#[.int .i64 x1, .int .i64 x2, .string (S x3)] : Array Value)[i]? := fun i => by rw [← hW1]; exact World.cell?_alloc_new _ _ _ _
    have hz1 : w.heap.size < W1.heap.size := by rw [← hW1]; simp
    have HCX : Hid (∀ W, Below W1.heap.size W1 W → W.cell? ⟨w.heap.size, 0, none⟩ = some (.int .i64 x1) ∧ W.cell? ⟨w.heap.size, 1, none⟩ = some (.int .i64 x2) ∧ W.cell? ⟨w.heap.size, 2, none⟩ = some (.string (S x3))) := fun W hW => ⟨(hW.cell (p := ⟨w.heap.size, 0, none⟩) hz1).trans (hcx 0), (hW.cell (p := ⟨w.heap.size, 1, none⟩) hz1).trans (hcx 1), (hW.cell (p := ⟨w.heap.size, 2, none⟩) hz1).trans (hcx 2)⟩
    have HNS : Hid (Ns w v ls) := hns
    have HSZ : Hid (∀ s ∈ ls, s.size ≤ 140737488355328) := hs.2
    have hln := hs.1
    unfold vA at CM ⊢
    obtain ⟨a, cap, rfl, -⟩ := hns
    clear hcx hs hg hk HPV
    go_enter Tryd.func3, Tryd.ntmps3
    go_wp2_with (first
      | (go_at_call 4; (try rw [hW1]); refine CS.mono ?_; rintro e w1 ⟨rfl, b1⟩; (have B1 : Hid (Below W1.heap.size W1 w1) := b1); obtain ⟨s0, s1, s2⟩ := HCX.out w1 b1; clear b1)
      | (go_at_call 5; refine (CM _).mono ?_; rintro e w2 ⟨rfl, b2⟩; (have B2 : Hid (Below W1.heap.size W1 w2) := bel_of B1.out b2 (Nat.le_refl _)); clear b2 s0 s1 s2))
    clear hW1
    go_loopw [7, 8, 9] (fun v7 v8 v9 wr => ∃ (i : Nat) (L : List Vr), i ≤ ls.length ∧ v9 = .int .i64 (i : Int) ∧ v8 = .int .i64 (L.length : Int) ∧ Hid (Lp W1 wr L v7)) (fun _ _ v9 _ => ls.length - (intOf v9).toNat)
    case atStart => exact ⟨0, [], Nat.zero_le _, rfl, rfl, Vs.nil _, rfl, fun x hx => (by cases hx), B2.out⟩
    case round =>
      clear B1 B2 CS CM
      obtain ⟨i, L, hi, rfl, rfl, HL⟩ := hrel
      obtain ⟨la, lc, hla, -⟩ := HL.out.vs
      subst hla
      have hL16 := (rgt_iff.1 HL.out.rg).1
      by_cases hil : i < ls.length
      · have hil' : (i : Int) < (ls.length : Int) := by omega
        have hi0 : (0 : Int) ≤ (i : Int) := by omega
        obtain ⟨b, off, cap', hsl, hbl, hcell⟩ := HNS.out.at hil
        cases hsl
        have hks := HSZ.out ls[i] (List.getElem_mem hil)
        have HNC : Hid (∀ W, Below W1.heap.size W1 W → W.cell? ⟨b, off + i, none⟩ = some (.string ls[i])) := fun W hW => hcell W (bel_of B0.out hW (Nat.le_refl _))
        clear hcell
        generalize ls[i] = k at *
        have n0 := HNC.out wr HL.out.bw
        have CN := dNam_any k (by omega)
        have CG := Get_any k HL.out.vs (by omega)
        obtain ⟨g, hd, hgv⟩ : ∃ g hd, getV L k = (g, hd) := ⟨_, _, rfl⟩
        have hhd := get_has k (rgt_iff.1 HL.out.rg).2.1
        rw [hgv] at CG hhd
        have HH : Hid (has L k = hd) := hhd.symm
        clear hhd hgv
        obtain ⟨g1, g2, g3⟩ := g
        unfold gA vA at CG
        cases q1 : namV k.data.toList with
        | false =>
          have HPE : Hid (putV L k (x1, x2, x3) = ([], 1)) := (HPV0.out L k HL.out.rg) q1
          rw [q1] at CN
          go_wp2_with (first
            | (go_at_call 6; refine (CN _).mono ?_; rintro e u1 ⟨rfl, hu1⟩; rw [hu1]; clear hu1 u1)
            | (go_at_call 7; refine CG.mono ?_; rintro e u2 ⟨rfl, b2⟩; (have B2 : Hid (Below W1.heap.size W1 u2) := bel_of HL.out.bw b2 (Nat.le_refl _)); (have V2 : Hid (Vs u2 (.slice la L.length lc) L) := HL.out.vs.up b2); clear b2))
          have V3 : Hid (Vs (u2.alloc (.cells #[.int .i64 g1, .int .i64 g2, .string (S g3)] 24)).drew (.slice la L.length lc) L) := V2.out.up (((Below.refl _ u2).alloc (Nat.le_refl _) _).drew)
          have B3 : Hid (Below W1.heap.size W1 (u2.alloc (.cells #[.int .i64 g1, .int .i64 g2, .string (S g3)] 24)).drew) := (B2.out.alloc B2.out.size _).drew
          have CP := HPT.out _ _ L k V3.out HL.out.rg HL.out.vk hks
          unfold vA at CP
          obtain ⟨s0, s1, s2⟩ := HCX.out _ B3.out
          have n3 := HNC.out _ B3.out
          clear n0
          go_region_held3 (fun w' => w'.cell? ⟨w.heap.size, 0, none⟩ = some (.int .i64 x1) ∧ w'.cell? ⟨w.heap.size, 1, none⟩ = some (.int .i64 x2) ∧ w'.cell? ⟨w.heap.size, 2, none⟩ = some (.string (S x3)) ∧ w'.cell? ⟨b, off + i, none⟩ = some (.string k))
            (first
              | go_keep
              | exact ⟨s0, s1, s2, n3⟩
              | exact ⟨r0, r1, r2, n5⟩)
            ((go_at_call 8
              refine CP.mono ?_
              rintro e w5 ⟨v5, he, h5, b5⟩
              rw [HPE.out] at he h5
              subst he
              have B5 : Hid (Below W1.heap.size W1 w5) := bel_of B3.out b5 (Nat.le_refl _)
              obtain ⟨r0, r1, r2⟩ := HCX.out w5 B5.out
              have n5 := HNC.out w5 B5.out
              have V5 : Hid (Vs w5 v5 []) := h5
              have V6 : Hid (Vs w5 (.slice la L.length lc) L) := V3.out.up b5
              obtain ⟨a5, c5, hv5, -⟩ := h5
              subst hv5
              clear b5 CP))
          go_wp2
          go_roundw
          case rel => exact ⟨i + 1, L, by omega, by simp, rfl, V6.out, HL.out.rg, HL.out.vk, B5.out⟩
          case measure => simp [intOf]; omega
        | true =>
          have HPE2 : Hid _ := HPV2.out L k HL.out.rg q1
          have HNM : Hid (namV k.data.toList = true) := q1
          by_cases hc : hd = false ∧ L.length = 16
          · obtain ⟨rfl, hL⟩ := hc
            have HPE : Hid (putV L k (x1, x2, x3) = ([], 4)) := HPE2.out.1 HH.out hL
            have HLL : Hid (L.length = 16) := hL
            clear hL
            rw [q1] at CN
            go_wp2_with (first
              | (go_at_call 6; refine (CN _).mono ?_; rintro e u1 ⟨rfl, hu1⟩; rw [hu1]; clear hu1 u1)
              | (go_at_call 7; refine CG.mono ?_; rintro e u2 ⟨rfl, b2⟩; (have B2 : Hid (Below W1.heap.size W1 u2) := bel_of HL.out.bw b2 (Nat.le_refl _)); (have V2 : Hid (Vs u2 (.slice la L.length lc) L) := HL.out.vs.up b2); clear b2))
            have V3 : Hid (Vs (u2.alloc (.cells #[.int .i64 g1, .int .i64 g2, .string (S g3)] 24)).drew (.slice la L.length lc) L) := V2.out.up (((Below.refl _ u2).alloc (Nat.le_refl _) _).drew)
            have B3 : Hid (Below W1.heap.size W1 (u2.alloc (.cells #[.int .i64 g1, .int .i64 g2, .string (S g3)] 24)).drew) := (B2.out.alloc B2.out.size _).drew
            have CP := HPT.out _ _ L k V3.out HL.out.rg HL.out.vk hks
            unfold vA at CP
            obtain ⟨s0, s1, s2⟩ := HCX.out _ B3.out
            have n3 := HNC.out _ B3.out
            clear n0
            go_region_held3 (fun w' => w'.cell? ⟨w.heap.size, 0, none⟩ = some (.int .i64 x1) ∧ w'.cell? ⟨w.heap.size, 1, none⟩ = some (.int .i64 x2) ∧ w'.cell? ⟨w.heap.size, 2, none⟩ = some (.string (S x3)) ∧ w'.cell? ⟨b, off + i, none⟩ = some (.string k))
              (first
                | go_keep
                | exact ⟨s0, s1, s2, n3⟩
                | exact ⟨r0, r1, r2, n5⟩)
              ((go_at_call 8
                refine CP.mono ?_
                rintro e w5 ⟨v5, he, h5, b5⟩
                rw [HPE.out] at he h5
                subst he
                have B5 : Hid (Below W1.heap.size W1 w5) := bel_of B3.out b5 (Nat.le_refl _)
                obtain ⟨r0, r1, r2⟩ := HCX.out w5 B5.out
                have n5 := HNC.out w5 B5.out
                have V5 : Hid (Vs w5 v5 []) := h5
                have V6 : Hid (Vs w5 (.slice la L.length lc) L) := V3.out.up b5
                obtain ⟨a5, c5, hv5, -⟩ := h5
                subst hv5
                clear b5 CP))
            have hL' : ((L.length : Int) == 16) = true := by rw [HLL.out]; rfl
            go_wp2
            go_roundw
            case rel => exact ⟨i + 1, L, by omega, by simp, (by first | rfl | (rw [HLL.out]; rfl)), (by first | exact V6.out | (have := V6.out; rwa [HLL.out] at this)), HL.out.rg, HL.out.vk, B5.out⟩
            case measure => simp [intOf]; omega
          · have hor : has L k = true ∨ L.length ≠ 16 := by
              rw [HH.out]
              cases hd with
              | true => exact .inl rfl
              | false => exact .inr (fun e => hc ⟨rfl, e⟩)
            have HPE : Hid (putV L k (x1, x2, x3) = (put L k (x1, x2, x3), 0)) := HPE2.out.2 hor
            have HR : Hid (rgt (put L k (x1, x2, x3)) = true) := put_right HL.out.rg HNM.out hm hor
            have HKV : Hid (∀ y ∈ put L k (x1, x2, x3), Vk y.2) := fun y hy => by
              rcases put_mem hy with h | rfl
              · exact HL.out.vk y h
              · exact HK.out
            have hpl := put_len L k (x1, x2, x3)
            rw [HH.out] at hpl
            cases hd with
            | true =>
              have HLN : Hid ((put L k (x1, x2, x3)).length = L.length) := by show _ = _; rw [hpl]; rfl
              clear hpl hc hor
              generalize put L k (x1, x2, x3) = L2 at *
              rw [q1] at CN
              go_wp2_with (first
                | (go_at_call 6; refine (CN _).mono ?_; rintro e u1 ⟨rfl, hu1⟩; rw [hu1]; clear hu1 u1)
                | (go_at_call 7; refine CG.mono ?_; rintro e u2 ⟨rfl, b2⟩; (have B2 : Hid (Below W1.heap.size W1 u2) := bel_of HL.out.bw b2 (Nat.le_refl _)); (have V2 : Hid (Vs u2 (.slice la L.length lc) L) := HL.out.vs.up b2); clear b2))
              have V3 : Hid (Vs (u2.alloc (.cells #[.int .i64 g1, .int .i64 g2, .string (S g3)] 24)).drew (.slice la L.length lc) L) := V2.out.up (((Below.refl _ u2).alloc (Nat.le_refl _) _).drew)
              have B3 : Hid (Below W1.heap.size W1 (u2.alloc (.cells #[.int .i64 g1, .int .i64 g2, .string (S g3)] 24)).drew) := (B2.out.alloc B2.out.size _).drew
              have CP := HPT.out _ _ L k V3.out HL.out.rg HL.out.vk hks
              unfold vA at CP
              obtain ⟨s0, s1, s2⟩ := HCX.out _ B3.out
              have n3 := HNC.out _ B3.out
              clear n0
              go_region_held3 (fun w' => w'.cell? ⟨w.heap.size, 0, none⟩ = some (.int .i64 x1) ∧ w'.cell? ⟨w.heap.size, 1, none⟩ = some (.int .i64 x2) ∧ w'.cell? ⟨w.heap.size, 2, none⟩ = some (.string (S x3)) ∧ w'.cell? ⟨b, off + i, none⟩ = some (.string k))
                (first
                  | go_keep
                  | exact ⟨s0, s1, s2, n3⟩
                  | exact ⟨r0, r1, r2, n5⟩)
                ((go_at_call 8
                  refine CP.mono ?_
                  rintro e w5 ⟨v5, he, h5, b5⟩
                  rw [HPE.out] at he h5
                  subst he
                  have B5 : Hid (Below W1.heap.size W1 w5) := bel_of B3.out b5 (Nat.le_refl _)
                  obtain ⟨r0, r1, r2⟩ := HCX.out w5 B5.out
                  have n5 := HNC.out w5 B5.out
                  have V5 : Hid (Vs w5 v5 L2) := h5
                  have V6 : Hid (Vs w5 (.slice la L.length lc) L) := V3.out.up b5
                  obtain ⟨a5, c5, hv5, -⟩ := h5
                  subst hv5
                  clear b5 CP))
              rw [HLN.out]
              go_wp2
              go_roundw
              case rel => exact ⟨i + 1, L2, by omega, by simp, by rw [HLN.out], by have := V5.out; rwa [HLN.out] at this, HR.out, HKV.out, B5.out⟩
              case measure => simp [intOf]; omega
            | false =>
              have hL' : ((L.length : Int) == 16) = false := beq_eq_false_iff_ne.2 (fun e => hc ⟨rfl, by omega⟩)
              have HLN : Hid ((put L k (x1, x2, x3)).length = L.length + 1) := by show _ = _; rw [hpl]; rfl
              clear hpl hc hor
              generalize put L k (x1, x2, x3) = L2 at *
              rw [q1] at CN
              go_wp2_with (first
                | (go_at_call 6; refine (CN _).mono ?_; rintro e u1 ⟨rfl, hu1⟩; rw [hu1]; clear hu1 u1)
                | (go_at_call 7; refine CG.mono ?_; rintro e u2 ⟨rfl, b2⟩; (have B2 : Hid (Below W1.heap.size W1 u2) := bel_of HL.out.bw b2 (Nat.le_refl _)); (have V2 : Hid (Vs u2 (.slice la L.length lc) L) := HL.out.vs.up b2); clear b2))
              have V3 : Hid (Vs (u2.alloc (.cells #[.int .i64 g1, .int .i64 g2, .string (S g3)] 24)).drew (.slice la L.length lc) L) := V2.out.up (((Below.refl _ u2).alloc (Nat.le_refl _) _).drew)
              have B3 : Hid (Below W1.heap.size W1 (u2.alloc (.cells #[.int .i64 g1, .int .i64 g2, .string (S g3)] 24)).drew) := (B2.out.alloc B2.out.size _).drew
              have CP := HPT.out _ _ L k V3.out HL.out.rg HL.out.vk hks
              unfold vA at CP
              obtain ⟨s0, s1, s2⟩ := HCX.out _ B3.out
              have n3 := HNC.out _ B3.out
              clear n0
              go_region_held3 (fun w' => w'.cell? ⟨w.heap.size, 0, none⟩ = some (.int .i64 x1) ∧ w'.cell? ⟨w.heap.size, 1, none⟩ = some (.int .i64 x2) ∧ w'.cell? ⟨w.heap.size, 2, none⟩ = some (.string (S x3)) ∧ w'.cell? ⟨b, off + i, none⟩ = some (.string k))
                (first
                  | go_keep
                  | exact ⟨s0, s1, s2, n3⟩
                  | exact ⟨r0, r1, r2, n5⟩)
                ((go_at_call 8
                  refine CP.mono ?_
                  rintro e w5 ⟨v5, he, h5, b5⟩
                  rw [HPE.out] at he h5
                  subst he
                  have B5 : Hid (Below W1.heap.size W1 w5) := bel_of B3.out b5 (Nat.le_refl _)
                  obtain ⟨r0, r1, r2⟩ := HCX.out w5 B5.out
                  have n5 := HNC.out w5 B5.out
                  have V5 : Hid (Vs w5 v5 L2) := h5
                  have V6 : Hid (Vs w5 (.slice la L.length lc) L) := V3.out.up b5
                  obtain ⟨a5, c5, hv5, -⟩ := h5
                  subst hv5
                  clear b5 CP))
              rw [HLN.out]
              go_wp2
              go_roundw
              case rel => exact ⟨i + 1, L2, by omega, by simp, by rw [HLN.out]; simp, by have := V5.out; rwa [HLN.out] at this, HR.out, HKV.out, B5.out⟩
              case measure => simp [intOf]; omega
      · have hil' : ¬ (i : Int) < (ls.length : Int) := by omega
        have CR := Right_any HL.out.vs (by omega) (sm_of HL.out.rg HL.out.vk)
        rw [HL.out.rg] at CR
        have HB : Hid (Below w.heap.size w wr) := bel_of B0.out HL.out.bw (Nat.le_refl _)
        go_wp2_with (go_at_call 9; refine CR.mono ?_; rintro e w5 ⟨rfl, b5⟩; (have B5 : Hid (Below w.heap.size w w5) := bel_of HB.out b5 (Nat.le_refl _)); clear b5)
        go_ret
        exact ⟨rfl, B5.out⟩

open Go.ChangeShapes Go.WideShapes Go.ChangeAt Go.WideMaps Go.WideElems in
set_option maxRecDepth 100000 in
theorem lifted (os : Os) (started : os.Started) (H : Type) (enc : TypeId × Value → H) :
    ReturnsInHanded {} Tryd.checked os 3 .any (fun w args => (Rows.valueFullSpec.pre enc Tryd.prog Tryd.f3 [] false w args ∧ laidMetH Tryd.prog laid9 w) ∧ sizedMet enc Tryd.prog Tryd.f3 (OpenSpec.ofChange Rows.valueFullSpec) false w args)
      (Rows.valueFullSpec.post enc Tryd.prog Tryd.f3 false true false false) := by
  refine returnsInHanded_of_change_and (C := Tryd.checked) (X := fun w _ => laidMetH Tryd.prog laid9 w) (fun _ _ _ hh h => h.of_heap hh) own9 started (by kernel_rfl) Tryd.func3
    (ChangeSpec.witness_shaped (enc := enc) (C := Tryd.checked) (os := os) (X := fun w _ => laidMetH Tryd.prog laid9 w) false (World.doorLaid Tryd.prog 400 os) #[.slice none 0 0, .agg #[.int .i64 0, .int .i64 0, .string .empty]] 8 rfl (World.shaped_of_RefB (by kernel_rfl) (by kernel_rfl)) (by kernel_rfl) (by kernel_rfl) (by kernel_rfl) (door_met os _)) ?_
  intro W base args ds gs before hval0 hW hcnd hsz0 hL _
  have hval : ∀ (j : Nat) t v, Tryd.f3.params[j]? = some t → args[j]? = some v → Value.okWide Tryd.prog W .any base t v := hval0
  have hW' := hW
  obtain ⟨p, q, hA0, hV, rfl, hfz, hnd⟩ := hW
  have hA : DataW.TrodAll enc Tryd.prog W 0 (fun _ => true) true Tryd.f3.params.toList args.toList ds p := hA0
  have hsz : (DataW.weightsEach Tryd.prog (Tryd.f3.params.toList ++ Rows.valueFullSpec.plain.varTypes Tryd.prog) (ds ++ gs)).all (· ≤ reachBytes) = true := hsz0
  rw [Tryd.params3] at hA hval hsz
  obtain ⟨v0, vs0, d0, ds0, p0, q0, hargs, rfl, rfl, h0, r0⟩ := trodAll_cons hA
  obtain ⟨v1, vs1, d1, ds1, p1, q1, rfl, rfl, rfl, h1, r1⟩ := trodAll_cons r0
  obtain ⟨rfl, rfl, rfl⟩ := trodAll_nil r1
  obtain rfl : args = #[v0, v1] := by cases args; simp_all
  obtain ⟨rfl, rfl⟩ := trodVars_none hV
  have lt0 : ∀ x ∈ p0, x.block < W.heap.size := by obtain ⟨m, hm⟩ := h0; exact DataW.trod_lt m _ _ _ hm
  have lt1 : ∀ x ∈ p1, x.block < W.heap.size := by obtain ⟨m, hm⟩ := h1; exact DataW.trod_lt m _ _ _ hm
  obtain ⟨ls, hns, k0⟩ := openNames (hval 0 22 v0 rfl rfl) h0
  obtain ⟨x1, rfl, k1⟩ := openVal (hval 1 24 v1 rfl rfl) h1
  have s0 := k0 (sized_at hsz (i := 0) rfl rfl)
  have s1 := k1 (sized_at hsz (i := 1) rfl rfl)
  clear hA0 hval0
  refine (walk x1 hns s0 s1 (gv_of hL)).mono fun e W' ⟨he, bel⟩ => ?_
  subst he
  exact ⟨_, rfl, _, _, _, [], _, [], hW', trodAll_mk1 (shut_bool Tryd.underlying4 _), (trodAll_cons_mk (Below.trod laidOut9 (by kernel_rfl) (of_decide_eq_true (by kernel_rfl)) h0 bel lt0) (trodAll_cons_mk (Below.trod laidOut9 (by kernel_rfl) (of_decide_eq_true (by kernel_rfl)) h1 bel lt1) trodAll_mk0)), rfl, bel.frame _, fun h => by cases h⟩
theorem said : Rows.ValueFullSaid :=
  OpenClaim.holds_of_wide 3 Tryd.f3 rfl rfl rfl rfl rfl rfl rfl ⟨rfl, rfl, rfl, rfl, rfl⟩ rfl rfl rfl rfl rfl (by kernel_rfl) Tryd.func3 (by kernel_rfl)
    (of_decide_eq_true (by kernel_rfl)) (by unfold Func.isWrapper; first | (rw [if_pos (by decide +kernel)]; kernel_rfl) | (rw [if_neg (by decide +kernel)]; exact ⟨rfl, rfl⟩))
    (fun os started H enc _ => lifted os started H enc)
theorem proved : Rows.ValueFullCardSaid :=
  Claim7.holds_tied_plain_at .later [] [.data, .data, .data] true (true, "c57e6c6659b67458ac3a45996e219ef616d2b9b07d1c47801aa51d07ab48077d") false
    said (fun _ h => by cases h) (by kernel_rfl) (fun _ h => by cases h) valueFull_row_tie rfl ⟨rfl, rfl⟩ (by kernel_rfl) rfl
    (fun f fn hf hfn => by
      obtain rfl : f = 3 := Option.some.inj ((show Tryd.prog.funcNamed "wherry/wherrylaw09.ValueFull" = some 3 by kernel_rfl).symm.trans hf) |>.symm
      obtain rfl : fn = Tryd.f3 := (Option.some.inj (Tryd.func3.symm.trans hfn)).symm
      exact ⟨by kernel_rfl, fun j t ht => by
        rw [Tryd.params3] at ht
        have hm : t ∈ [22, 24] := by simpa using Array.mem_of_getElem? ht
        have hall : ([22, 24].all fun u => !Tryd.prog.wantsStandIn u) = true := by kernel_rfl
        exact (show Tryd.prog.wantsStandIn t = false by simpa using List.all_eq_true.1 hall t hm)⟩)
    (by kernel_rfl)
end Go.Proofs.YtaahmnkfjkbliabDoor.valueFull

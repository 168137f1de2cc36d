/-
  Proved: SortedTexts answers true, and changes nothing that was there before the call, where the arguments are of bulk at most 1048576: a map of texts tells what was put, in the keys' order, each key once.
-/
import Derived.Test.YtkohcdefhaokiaaTTold
import Derived.Test.YtkohcdefhaokiaaTArgs
import Derived.Test.YtkohcdefhaokiaaSRef
import Derived.ProofKit
import Derived.OpenShut
import Derived.ShutString
import Derived.JoinedCond
import Derived.Stop.RegionWithIn
namespace Go.Proofs.Ytkohcdefhaokiaa.T.sortedTexts
open Go.ChangeShapes Go.WideShapes Go.ChangeAt Go.RowKit Go.Shelf Go.Lib Go.Sort
open Go.ChangeMaps (open_string shut_string)

attribute [local go_sem] Oper.semAt_some

/-- the law's boxes and its map -/
structure Tx (w : World) (kv vv : Value) (mb : Nat) (es : List Ent) (wr : World) : Prop where
  b : Below w.heap.size w wr
  k2 : Bx wr w.heap.size kv 27
  k3 : Bx wr (w.heap.size + 1) vv 27
  k4 : Bx wr (w.heap.size + 1 + 1) (.bool false) 4
  mp : ∃ sv q, Mp wr mb es sv q 0 ∧ (∀ g, sv.ownBlock = some g → w.heap.size ≤ g) ∧ (∀ b, q = some b → w.heap.size ≤ b)
  mb : w.heap.size ≤ mb
theorem Tx.put {w : World} {kv vv : Value} {mb : Nat} {es : List Ent} {wr : World} (h : Tx w kv vv mb es wr) (k v : ByteArray) (hn : (es.length + 1) * 32 ≤ 211106232528000) :
    Calls Try.prog 21 #[.pointer (some ⟨mb, 0, none⟩), .string k, .string v] wr.drew fun e w' => e = .returned (.tuple #[.string (val es k), .bool (has es k)]) ∧ Tx w kv vv mb (put es k v) w' := by
  obtain ⟨sv, q, hM, hs, hq⟩ := h.mp
  refine (Put_any hM.drew k v hn).mono ?_
  rintro e w' ⟨rfl, sv', q', hM', hT⟩
  have hz := h.b.size
  have hm := h.mb
  have bx : ∀ {b : Nat} {u : Value} {t : TypeId}, Bx wr b u t → 81 ≠ t → Bx w' b u t := fun {b u t} hb ht => by
    refine Bx.ch (w := wr.drew) hb hT.1 ?_
    rintro (e | ⟨_, e⟩)
    · exact bx_mpT hM hb e
    · exact row_box hM.row hb ht e rfl
  refine ⟨rfl, h.b.drew.trans (hT.1.below hz ?_), bx h.k2 (by decide), bx h.k3 (by decide), bx h.k4 (by decide), ⟨sv', q', hM', ?_, ?_⟩, h.mb⟩
  · rintro b hb (e | ⟨_, e⟩)
    · omega
    · have := hs b e; omega
  · intro g hg
    rcases hT.2 with ⟨rfl, _⟩ | ⟨_, h2, _⟩
    · exact hs g hg
    · rcases h2 g hg with ⟨_, e⟩ | e
      · exact hs g e
      · exact Nat.le_trans hz e
  · intro g hg
    rcases hT.2 with ⟨_, rfl, _⟩ | ⟨_, _, h2⟩
    · exact hq g hg
    · rcases h2 g hg with ⟨_, e⟩ | e
      · exact hq g e
      · exact Nat.le_trans hz e

set_option maxHeartbeats 8000000 in
set_option maxRecDepth 100000 in
theorem walk (va vb : Value) (ks vs : List ByteArray) (hkl : ks.length ≤ 1048576) (hks : ∀ (j : Nat) (t : ByteArray), ks[j]? = some t → t.size ≤ 1048576) (hvl : vs.length ≤ 1048576) (w : World) (hs : Txs w va ks) (ht : Txs w vb vs) :
    Calls Try.prog 6 #[va, vb] w fun r w' => r = .returned (.bool true) ∧ Below w.heap.size w w' := by
  obtain ⟨a, cap, rfl, hs⟩ := hs
  obtain ⟨a2, cap2, rfl, ht⟩ := ht
  have HK : Hid (∀ (j : Nat) (t : ByteArray), ks[j]? = some t → t.size ≤ 1048576) := hks
  have HS : Hid (ks = [] ∨ ∃ b off, a = some ⟨b, off, none⟩ ∧ b < w.heap.size ∧ ∀ (j : Nat) (t : ByteArray), ks[j]? = some t → w.cell? ⟨b, off + j, none⟩ = some (.string t)) := hs
  have HT : Hid (vs = [] ∨ ∃ b off, a2 = some ⟨b, off, none⟩ ∧ b < w.heap.size ∧ ∀ (j : Nat) (t : ByteArray), vs[j]? = some t → w.cell? ⟨b, off + j, none⟩ = some (.string t)) := ht
  clear hks hs ht
  refine (callsIn_wide (n := 9)).1 ?_
  refine callsIn_of_wp_marks Try.func6 rfl trivial ?_ rfl
  simp only [Try.ntmps6, List.size_toArray, List.length_cons, List.length_nil, Nat.reduceAdd, Nat.reduceSub, Array.replicate_succ, Array.replicate_zero, List.push_toArray, List.append_toArray, List.nil_append, List.cons_append]
  obtain ⟨wa, hwa⟩ : ∃ wa, wa = ((w.alloc (.cells #[.slice a ks.length cap] 27)).alloc (.cells #[.slice a2 vs.length cap2] 27)).alloc (.cells #[.bool false] 4) := ⟨_, rfl⟩
  gi_wp2_with (first
    | (refine ⟨trivial, ?_⟩; gi_at_call 9; rw [← hwa]; refine (callsIn_wide.2 (shown_any _)).mono ?_; rintro r w1 ⟨rfl, b1⟩)
    | (refine ⟨trivial, ?_⟩; gi_at_call 20; refine (callsIn_wide.2 (New_any _)).mono ?_; rintro r w2 ⟨rfl, hM2, b2⟩))
  have hsa : wa.heap.size = w.heap.size + 1 + 1 + 1 := by rw [hwa]; simp
  have hBa : Below w.heap.size w wa := by rw [hwa]; exact (((Below.refl _ w).alloc (Nat.le_refl _) _).alloc (by simp) _).alloc (by simp; omega) _
  have h2a : Bx wa w.heap.size (.slice a ks.length cap) 27 := by rw [hwa]; exact ((Bx.new w _ _).alloc _).alloc _
  have h3a : Bx wa (w.heap.size + 1) (.slice a2 vs.length cap2) 27 := by
    rw [hwa]
    have := (Bx.new (w.alloc (.cells #[.slice a ks.length cap] 27)) (.slice a2 vs.length cap2) 27).alloc (.cells #[.bool false] 4)
    rwa [World.size_alloc] at this
  have h4a : Bx wa (w.heap.size + 1 + 1) (.bool false) 4 := by
    rw [hwa]
    have := Bx.new ((w.alloc (.cells #[.slice a ks.length cap] 27)).alloc (.cells #[.slice a2 vs.length cap2] 27)) (.bool false) 4
    rwa [World.size_alloc, World.size_alloc] at this
  have B12 : Below wa.heap.size wa w2 := b1.trans (b2.mono b1.size)
  have hs1 := b1.size
  have T0 : Tx w (.slice a ks.length cap) (.slice a2 vs.length cap2) w1.heap.size [] w2 := ⟨hBa.trans (B12.mono (by omega)), h2a.below B12 (by omega), h3a.below B12 (by omega), h4a.below B12 (by omega), ⟨_, _, hM2, fun g e => (by cases e), fun g e => (by cases e)⟩, by omega⟩
  obtain ⟨mb, hmb⟩ : ∃ mb, mb = w1.heap.size := ⟨_, rfl⟩
  rw [← hmb] at T0 ⊢
  obtain ⟨n, hn⟩ : ∃ n, n = min ks.length vs.length := ⟨_, rfl⟩
  obtain ⟨ps, hps⟩ : ∃ ps, ps = ks.zip vs := ⟨_, rfl⟩
  have hpl : ps.length = n := by rw [hps, List.length_zip, hn]
  have HN : Hid (n = min ks.length vs.length ∧ ps = ks.zip vs) := ⟨hn, hps⟩
  clear hwa hM2 b1 b2 B12 h2a h3a h4a hBa hmb hn hps hs1 hsa
  gi_loopw [7] (fun vi wr => ∃ (i : Nat), vi = .int .i64 i ∧ i ≤ n ∧ Tx w (.slice a ks.length cap) (.slice a2 vs.length cap2) mb (puts (ps.take i)) wr) (fun vi _ => n - (intOf vi).toNat)
  case atStart => exact ⟨0, rfl, Nat.zero_le _, T0⟩
  case round =>
    obtain ⟨i, rfl, hi, P⟩ := hrel
    clear T0
    have y2 := P.k2.cell
    have y3 := P.k3.cell
    by_cases hl : i < n
    · have hik : i < ks.length := by have := HN.out.1; omega
      have hiv : i < vs.length := by have := HN.out.1; omega
      have hli : (i : Int) < (ks.length : Int) := by omega
      have hlv : (i : Int) < (vs.length : Int) := by omega
      rcases HS.out with hs | ⟨b, off, rfl, hlt, hc⟩
      · rw [hs] at hik; simp at hik
      rcases HT.out with hs | ⟨b', off', rfl, hlt', hc'⟩
      · rw [hs] at hiv; simp at hiv
      have m0 := (P.b.cell (p := ⟨b, off + i, none⟩) hlt).trans (hc i ks[i] (List.getElem?_eq_getElem hik))
      have m1 := (P.b.cell (p := ⟨b', off' + i, none⟩) hlt').trans (hc' i vs[i] (List.getElem?_eq_getElem hiv))
      have hst : puts (ps.take (i + 1)) = put (puts (ps.take i)) ks[i] vs[i] := by
        have hip : i < ps.length := by omega
        rw [List.take_succ_eq_append_getElem hip, puts_snoc]
        have e : ps[i] = (ks[i], vs[i]) := by simp [HN.out.2]
        rw [e]
      have hpl1 : (puts (ps.take i)).length ≤ 1048576 := Nat.le_trans (puts_len _) (by rw [List.length_take]; omega)
      have HP := P.put ks[i] vs[i] (by omega)
      rw [← hst] at HP
      have HP' : Hid _ := HP
      clear HP hc hc' P hst HS HT HK
      gi_wp2
      refine wpIn_mono ?_ NoPanic.imp
      gi_region_with (first | (refine ⟨trivial, ?_⟩; gi_at_call 21; refine (callsIn_wide.2 HP'.out).mono ?_; rintro e w4 ⟨rfl, P4⟩))
      all_goals refine NoPanic.normal ?_
      all_goals
        have P4H : Hid (Tx w (.slice (some ⟨b, off, none⟩) ks.length cap) (.slice (some ⟨b', off', none⟩) vs.length cap2) mb (puts (ps.take (i + 1))) w4) := P4
        clear P4 HP'
        gi_wp2
        go_roundw
        case rel => exact ⟨i + 1, by simp, by omega, P4H.out⟩
        case measure => simp [intOf]; omega
    · have hin : i = n := by omega
      subst hin
      have hpt : ps.take i = ps := List.take_of_length_le (by omega)
      rw [hpt] at P
      have hlc : ¬ ((i : Int) < (ks.length : Int)) ∨ ((i : Int) < (ks.length : Int) ∧ ¬ (i : Int) < (vs.length : Int)) := by have := HN.out.1; omega
      obtain ⟨sv, sq, hM, hsv, hsq⟩ := P.mp
      have hpl1 : (puts ps).length ≤ 1048576 := Nat.le_trans (puts_len _) (by have := HN.out.1; omega)
      have HE : Hid (Rise (puts ps) ∧ (∀ e ∈ puts ps, e.2 = lastOf e.1 ps) ∧ ∀ e ∈ puts ps, e.1.size ≤ 1048576) := by
        refine ⟨puts_rise ps, puts_last ps, fun e he => ?_⟩
        obtain ⟨r, hr, e1⟩ := puts_key ps e he
        rw [HN.out.2] at hr
        have h1 := (List.of_mem_zip (show (r.1, r.2) ∈ ks.zip vs from hr)).1
        rw [e1] at h1
        obtain ⟨j, hj⟩ := List.mem_iff_getElem?.1 h1
        exact HK.out j _ hj
      have HX : Hid (Tx w (.slice a ks.length cap) (.slice a2 vs.length cap2) mb (puts ps) wr ∧ Mp wr mb (puts ps) sv sq 0) := ⟨P, hM⟩
      generalize puts ps = es at *
      clear P hM hpt HK
      obtain ⟨w5, hw5⟩ : ∃ w5, w5 = (wr.alloc (.cells #[.string ⟨#[]⟩] 9)).alloc (.cells #[.int .i64 0] 3) := ⟨_, rfl⟩
      rcases hlc with hli | ⟨hli, hlv⟩
      all_goals
        gi_wp2_with (first
          | (refine ⟨trivial, ?_⟩; gi_at_call 22; rw [← hw5]; refine (callsIn_wide.2 (All_any _ _)).mono ?_; rintro r w6 ⟨f, rfl, hR, B6⟩))
        have hs5 : w5.heap.size = wr.heap.size + 1 + 1 := by rw [hw5]; simp
        have B5 : Below wr.heap.size wr w5 := by rw [hw5]; exact ((Below.refl _ wr).alloc (Nat.le_refl _) _).alloc (by simp) _
        have z8 : Bx w6 wr.heap.size (.string ⟨#[]⟩) 9 := by
          refine Bx.below ?_ B6 (by omega)
          rw [hw5]; exact (Bx.new wr _ _).alloc _
        have z9 : Bx w6 (wr.heap.size + 1) (.int .i64 0) 3 := by
          refine Bx.below ?_ B6 (by omega)
          rw [hw5]
          have := Bx.new (wr.alloc (.cells #[.string ⟨#[]⟩] 9)) (.int .i64 0) 3
          rwa [World.size_alloc] at this
        have B56 : Below wr.heap.size wr w6 := B5.trans (B6.mono (by omega))
        have hzr := HX.out.1.b.size
        have hq9 : sq ≠ some (wr.heap.size + 1) := fun e => by have := (HX.out.2.qbx e).lt; omega
        obtain ⟨b8, hb8⟩ : ∃ b, b = wr.heap.size := ⟨_, rfl⟩
        obtain ⟨b9, hb9⟩ : ∃ b, b = wr.heap.size + 1 := ⟨_, rfl⟩
        have hb8w : w.heap.size ≤ b8 := by omega
        have hb9w : w.heap.size ≤ b9 := by omega
        rw [← hb9] at z9 hq9
        rw [← hb8] at z8
        rw [← hb9, ← hb8]
        have HY : Hid (Mp w6 mb es sv sq 0 ∧ Below w.heap.size w w6 ∧ Bx w6 w.heap.size (.slice a ks.length cap) 27 ∧ Bx w6 (w.heap.size + 1) (.slice a2 vs.length cap2) 27 ∧ Bx w6 (w.heap.size + 1 + 1) (.bool false) 4) :=
          ⟨HX.out.2.below B56, HX.out.1.b.trans (B56.mono hzr), HX.out.1.k2.below B56 HX.out.1.k2.lt, HX.out.1.k3.below B56 HX.out.1.k3.lt, HX.out.1.k4.below B56 HX.out.1.k4.lt⟩
        have hmb := HX.out.1.mb
        clear HX hb8 hb9 hs5 B5 B56 B6 hw5 y2 y3
        have HP : Pk w6 (.func (.func 48) #[] #[]) id := ⟨rfl, rfl, rfl⟩
        refine range_map2 (r1 := 10) (r2 := 11) rfl hR HP HY.out.1 (cb := cbOf w6 sv) (fun g hg => by simp [cbOf, hg]) (by omega) (by decide)
          (Jt w6 b8 b9 mb es sv sq) (fun _ _ _ _ => False) (Et w6 b8 b9 mb es sv) (fun _ _ => False)
          Jt.kept (fun _ _ _ _ _ _ h _ _ => h) Et.kept (fun _ _ _ _ _ h _ _ => h)
          (fun lb W0 hM0 hch hlq hs0 => ⟨TI.start HY.out.1 z8 z9 hq9 hM0 hch hlq hs0, hlq⟩) ?assign ?body
          (fun s A W2 h hb => Jt.out HY.out.1 h hb) (fun _ _ _ _ _ h => h.elim) ?done (fun _ _ h => h.elim)
        case assign =>
          intro mm l x W K hK
          gi_wp2
          exact hK
        case body =>
          rintro mm l s pre x W ⟨hT, hlq⟩ hnx
          have hnx : pre ++ [x] <+: es := hnx
          have hple : pre.length + 1 ≤ es.length := by have := hnx.length_le; simpa using this
          have hxs := HE.out.2.1 x (hnx.subset (by simp))
          have hsz := lastKey_size hnx HE.out.2.2
          have hxz := HE.out.2.2 x (hnx.subset (by simp))
          have hrise : pre ≠ [] → lt (lastKey pre) x.1 = true := told_rise HE.out.1 hnx
          have x8 := hT.l8.cell
          have TT : Hid (TI w6 b8 b9 mb es sv s.1 s.2 (lastKey pre) pre.length W) := hT
          have HXS : Hid (x.2 = lastOf x.1 ps) := hxs
          have HLK : Hid (lastKey (pre ++ [x]) = x.1) := lastKey_snoc pre x
          simp only [List.setIfInBounds_toArray, List.set_cons_succ, List.set_cons_zero]
          clear hT hnx HE hxs
          have hless := Less_any (lastKey pre) x.1 (by omega) (by omega) W
          generalize lastKey pre = lk at *
          have hcs : (¬ (0 : Int) < (pre.length : Int) ∧ ¬ 0 < pre.length) ∨ (((0 : Int) < (pre.length : Int) ∧ 0 < pre.length) ∧ lt lk x.1 = true) := by
            by_cases hp : pre = []
            · left; simp [hp]
            · right
              have := List.length_pos_iff.2 hp
              exact ⟨⟨by omega, this⟩, hrise hp⟩
          clear hrise
          have step : ∀ W7, Below W.heap.size W W7 → TI w6 b8 b9 mb es sv s.1 s.2 lk pre.length W7 ∧ Bx W7 w.heap.size (.slice a ks.length cap) 27 ∧ Bx W7 (w.heap.size + 1) (.slice a2 vs.length cap2) 27 ∧ Below w.heap.size w W7 := fun W7 hb => by
            have h7 := TT.out.below hb
            exact ⟨h7, h7.keep HY.out.1 z8 z9 hlq HY.out.2.2.1 (by decide) (by decide), h7.keep HY.out.1 z8 z9 hlq HY.out.2.2.2.1 (by decide) (by decide), h7.bel HY.out.2.1 hb8w hb9w hmb hsq hlq⟩
          have STP : Hid _ := step
          clear step
          rcases hcs with ⟨hc0, hc1⟩ | ⟨⟨hc0, hc1⟩, hc2⟩
          · have hd0 : decide (0 < pre.length) = false := by simpa using hc1
            clear HY hR HP
            gi_wp2_with (first
              | (refine ⟨trivial, (fun h => by cases h), ?_⟩; gi_at_call 23; refine (CallsIn.inRound _ (callsIn_wide.2 hless)).mono ?_; rintro e w7 ⟨rfl, B7⟩; obtain ⟨t1, t2, t3, t4⟩ := STP.out w7 B7; have x9 := t1.n9.cell; have y2 := t2.cell; have y3 := t3.cell; have T7 : Hid _ := t1; clear t1 t2 t3)
              | (refine ⟨trivial, ?_⟩; gi_at_call 23; refine (CallsIn.inRound _ (callsIn_wide.2 hless)).mono ?_; rintro e w7 ⟨rfl, B7⟩; obtain ⟨t1, t2, t3, t4⟩ := STP.out w7 B7; have x9 := t1.n9.cell; have y2 := t2.cell; have y3 := t3.cell; have T7 : Hid _ := t1; clear t1 t2 t3))
            have KS : Hid _ := t4
            clear t4
            gi_loopw [13, 14] (fun v13 v14 wz => ∃ j : Nat, v14 = .int .i64 j ∧ j ≤ i ∧ v13 = .string (lastOf x.1 (ps.take j)) ∧ wz = w7) (fun _ v14 _ => i - (intOf v14).toNat)
            case atStart => exact ⟨0, rfl, Nat.zero_le _, rfl, rfl⟩
            case round =>
              obtain ⟨j, rfl, hj, rfl, hw7⟩ := hrel
              subst hw7
              by_cases hjl : j < i
              · have hjk : j < ks.length := by have := HN.out.1; omega
                have hjv : j < vs.length := by have := HN.out.1; omega
                have hjk' : (j : Int) < (ks.length : Int) := by omega
                have hjv' : (j : Int) < (vs.length : Int) := by omega
                have hst : lastOf x.1 (ps.take (j + 1)) = if (ks[j].toList == x.1.toList) = true then vs[j] else lastOf x.1 (ps.take j) := by
                  have hip : j < ps.length := by omega
                  rw [List.take_succ_eq_append_getElem hip, lastOf_snoc]
                  have e : ps[j] = (ks[j], vs[j]) := by simp [HN.out.2]
                  rw [e]
                have HST : Hid _ := hst
                clear hst
                rcases HS.out with hs | ⟨b, off, rfl, hlt, hc⟩
                · rw [hs] at hjk; simp at hjk
                rcases HT.out with hs | ⟨b', off', rfl, hlt', hc'⟩
                · rw [hs] at hjv; simp at hjv
                have m0 := (KS.out.cell (p := ⟨b, off + j, none⟩) hlt).trans (hc j ks[j] (List.getElem?_eq_getElem hjk))
                have m1 := (KS.out.cell (p := ⟨b', off' + j, none⟩) hlt').trans (hc' j vs[j] (List.getElem?_eq_getElem hjv))
                clear hc hc' HS HT
                cases hq : (ks[j].toList == x.1.toList) with
                | true =>
                  gi_wp2
                  go_roundw
                  case rel => exact ⟨j + 1, by simp, by omega, by rw [HST.out, hq]; rfl, trivial⟩
                  case measure => simp [intOf]; omega
                | false =>
                  gi_wp2
                  go_roundw
                  case rel => exact ⟨j + 1, by simp, by omega, by rw [HST.out, hq]; rfl, trivial⟩
                  case measure => simp [intOf]; omega
              · obtain rfl : j = i := by omega
                have hlo : lastOf x.1 (ps.take j) = x.2 := by rw [List.take_of_length_le (by omega)]; exact HXS.out.symm
                rw [hlo]
                have u8 := T7.out.l8.cell
                have f8 := T7.out.l8.fro
                have hS := TI.step TT.out B7 x.1 (pre.length + 1)
                have ec : ((pre.length + 1 : Nat) : Int) = (pre.length : Int) + 1 := by simp
                rw [ec] at hS
                have HSS : Hid _ := hS
                have y9 := T7.out.n9.ch (show Ch (fun b => b = b8) _ _ from (Ch.refl (fun b => b = b8) _).setCell ⟨b8, 0, none⟩ (.string x.1) (fun _ => rfl)) (T7.out.l8.ne T7.out.n9 (by decide)).symm
                have u9 := y9.cell
                have f9 := y9.fro
                clear hS y9 hlo ec HS HT
                gi_wp2
                exact ⟨HSS.out.2.1, HSS.out.2.2, by unfold Jt; rw [show (pre ++ [x]).length = pre.length + 1 by simp, HLK.out]; exact ⟨HSS.out.1, hlq⟩⟩
          · clear HY hR HP
            rw [hc2] at hless
            gi_wp2_with (first
              | (refine ⟨trivial, (fun h => by cases h), ?_⟩; gi_at_call 23; refine (CallsIn.inRound _ (callsIn_wide.2 hless)).mono ?_; rintro e w7 ⟨rfl, B7⟩; obtain ⟨t1, t2, t3, t4⟩ := STP.out w7 B7; have x9 := t1.n9.cell; have y2 := t2.cell; have y3 := t3.cell; have T7 : Hid _ := t1; clear t1 t2 t3)
              | (refine ⟨trivial, ?_⟩; gi_at_call 23; refine (CallsIn.inRound _ (callsIn_wide.2 hless)).mono ?_; rintro e w7 ⟨rfl, B7⟩; obtain ⟨t1, t2, t3, t4⟩ := STP.out w7 B7; have x9 := t1.n9.cell; have y2 := t2.cell; have y3 := t3.cell; have T7 : Hid _ := t1; clear t1 t2 t3))
            have KS : Hid _ := t4
            clear t4
            gi_loopw [13, 14] (fun v13 v14 wz => ∃ j : Nat, v14 = .int .i64 j ∧ j ≤ i ∧ v13 = .string (lastOf x.1 (ps.take j)) ∧ wz = w7) (fun _ v14 _ => i - (intOf v14).toNat)
            case atStart => exact ⟨0, rfl, Nat.zero_le _, rfl, rfl⟩
            case round =>
              obtain ⟨j, rfl, hj, rfl, hw7⟩ := hrel
              subst hw7
              by_cases hjl : j < i
              · have hjk : j < ks.length := by have := HN.out.1; omega
                have hjv : j < vs.length := by have := HN.out.1; omega
                have hjk' : (j : Int) < (ks.length : Int) := by omega
                have hjv' : (j : Int) < (vs.length : Int) := by omega
                have hst : lastOf x.1 (ps.take (j + 1)) = if (ks[j].toList == x.1.toList) = true then vs[j] else lastOf x.1 (ps.take j) := by
                  have hip : j < ps.length := by omega
                  rw [List.take_succ_eq_append_getElem hip, lastOf_snoc]
                  have e : ps[j] = (ks[j], vs[j]) := by simp [HN.out.2]
                  rw [e]
                have HST : Hid _ := hst
                clear hst
                rcases HS.out with hs | ⟨b, off, rfl, hlt, hc⟩
                · rw [hs] at hjk; simp at hjk
                rcases HT.out with hs | ⟨b', off', rfl, hlt', hc'⟩
                · rw [hs] at hjv; simp at hjv
                have m0 := (KS.out.cell (p := ⟨b, off + j, none⟩) hlt).trans (hc j ks[j] (List.getElem?_eq_getElem hjk))
                have m1 := (KS.out.cell (p := ⟨b', off' + j, none⟩) hlt').trans (hc' j vs[j] (List.getElem?_eq_getElem hjv))
                clear hc hc' HS HT
                cases hq : (ks[j].toList == x.1.toList) with
                | true =>
                  gi_wp2
                  go_roundw
                  case rel => exact ⟨j + 1, by simp, by omega, by rw [HST.out, hq]; rfl, trivial⟩
                  case measure => simp [intOf]; omega
                | false =>
                  gi_wp2
                  go_roundw
                  case rel => exact ⟨j + 1, by simp, by omega, by rw [HST.out, hq]; rfl, trivial⟩
                  case measure => simp [intOf]; omega
              · obtain rfl : j = i := by omega
                have hlo : lastOf x.1 (ps.take j) = x.2 := by rw [List.take_of_length_le (by omega)]; exact HXS.out.symm
                rw [hlo]
                have u8 := T7.out.l8.cell
                have f8 := T7.out.l8.fro
                have hS := TI.step TT.out B7 x.1 (pre.length + 1)
                have ec : ((pre.length + 1 : Nat) : Int) = (pre.length : Int) + 1 := by simp
                rw [ec] at hS
                have HSS : Hid _ := hS
                have y9 := T7.out.n9.ch (show Ch (fun b => b = b8) _ _ from (Ch.refl (fun b => b = b8) _).setCell ⟨b8, 0, none⟩ (.string x.1) (fun _ => rfl)) (T7.out.l8.ne T7.out.n9 (by decide)).symm
                have u9 := y9.cell
                have f9 := y9.fro
                clear hS y9 hlo ec HS HT
                gi_wp2
                exact ⟨HSS.out.2.1, HSS.out.2.2, by unfold Jt; rw [show (pre ++ [x]).length = pre.length + 1 by simp, HLK.out]; exact ⟨HSS.out.1, hlq⟩⟩
        case done =>
          rintro W ⟨lb, h9, hM9, hC⟩ hD
          have hl8 := z8.lt
          have hl9 := z9.lt
          have hlm := HY.out.1.lt
          have k4 : Bx W (w.heap.size + 1 + 1) (.bool false) 4 := by
            refine HY.out.2.2.2.2.ch hC ?_
            rintro (e | e | e)
            · exact bx_mpT HY.out.1 HY.out.2.2.2.2 e
            · exact HY.out.2.2.2.2.ne z8 (by decide) e
            · exact HY.out.2.2.2.2.ne z9 (by decide) e
          have hBW : Below w.heap.size w W := HY.out.2.1.trans (hC.below HY.out.2.1.size (by rintro b hb (e | e | e) <;> omega))
          have c9 := h9.cell
          have c4 := k4.cell
          have f4 := k4.fro
          have HM : Hid (Mp W.drew mb es sv (some lb) 0) := hM9.drew
          have hzW := hBW.size
          have h46 := HY.out.2.2.2.2.lt
          have K4 : Hid (Bx W (w.heap.size + 1 + 1) (.bool false) 4 ∧ Below w.heap.size w W) := ⟨k4, hBW⟩
          clear k4 hBW h9 hM9 hC HY HS HT hR HP HN HE
          gi_wp2
          refine wpIn_mono ?_ NoPanic.imp
          gi_region_with (first | (refine ⟨trivial, ?_⟩; gi_at_call 24; refine (callsIn_wide.2 (Len_any HM.out)).mono ?_; rintro e wz ⟨rfl, rfl⟩))
          all_goals refine NoPanic.normal ?_
          all_goals
            have hC5 : Ch (fun b => b = w.heap.size + 1 + 1) W (W.setCell ⟨w.heap.size + 1 + 1, 0, none⟩ (.bool true)).drew := ((Ch.refl (fun b => b = w.heap.size + 1 + 1) W).setCell ⟨w.heap.size + 1 + 1, 0, none⟩ _ (fun _ => rfl)).drew
            have hDz := hC5.obj hD (by omega)
            have hBz : Below w.heap.size w (W.setCell ⟨w.heap.size + 1 + 1, 0, none⟩ (.bool true)).drew := K4.out.2.trans (hC5.below hzW (by rintro b hb rfl; omega))
            have h4z : Bx (W.setCell ⟨w.heap.size + 1 + 1, 0, none⟩ (.bool true)).drew (w.heap.size + 1 + 1) (.bool true) 4 := one0 K4.out.1 _
            have h4y : Bx ((W.setCell ⟨w.heap.size + 1 + 1, 0, none⟩ (.bool true)).drew.putObj w6.heap.size (.deferred none)) (w.heap.size + 1 + 1) (.bool true) 4 := (World.putObj_heap_other (by omega)).trans h4z
            have c4y := h4y.cell
            gi_wp2
            refine ⟨by simp, .inl ⟨_, _, rfl, takes hDz, ?_⟩⟩
            refine ⟨.bool true, ?res, rfl, below_take hBz (Nat.le_refl _) (by omega) _⟩
            case res => simp [results, Try.results6, go_sem, c4y]

set_option maxRecDepth 100000 in
theorem lifted (os : Os) (started : os.Started) (H : Type) (enc : TypeId × Value → H) (F : Stop.Interp) :
    ReturnsInHanded {} Try.checked os 6 .any ((Rows.OpenSpec.upto Rows.sortedTextsSpec).pre6 enc Try.prog Try.f6 Rows.sortedTextsUptoRow.domain false) (((Rows.OpenSpec.upto Rows.sortedTextsSpec).at F).post enc Try.prog Try.f6 false true false false) := by
  refine returnsInHanded_of_cond (C := Try.checked) (s := Rows.OpenSpec.upto Rows.sortedTextsSpec) (k := Rows.uptoSmall) rfl own started (by kernel_rfl) Try.func6
    (OpenSpec.witness (enc := enc) (C := Try.checked) (s := Rows.OpenSpec.upto Rows.sortedTextsSpec) (k := Rows.uptoSmall) rfl false ⟨#[], #[.slice none 0 0, .slice none 0 0], []⟩ 8 (by kernel_rfl) (by kernel_rfl) (by kernel_rfl)
      (x := ([.nil, .nil], [], [])) (by kernel_rfl) rfl (by kernel_rfl)) ?_
  intro W base args ds gs before hval0 hW _ hk _
  have hval : ∀ (j : Nat) t v, Try.f6.params[j]? = some t → args[j]? = some v → Value.okWide Try.prog W .any base t v := hval0
  have hW' := hW
  obtain ⟨p, q, hA0, hV, rfl, hfz, hnd⟩ := hW
  have hA : DataW.TrodAll enc Try.prog W 0 (fun _ => true) true Try.f6.params.toList args.toList ds p := hA0
  rw [Try.params6] at hA hval
  obtain ⟨v0, vs0, d0, ds0, p0, q0, hargs, rfl, rfl, h0, r0⟩ := trodAll_cons hA
  obtain ⟨v1, vs1, d1, ds1, p1, q1, rfl, rfl, rfl, h1, r1⟩ := trodAll_cons r0
  obtain ⟨rfl, rfl, rfl⟩ := trodAll_nil r1
  obtain rfl : args = #[v0, v1] := by cases args; simp_all
  obtain ⟨rfl, rfl⟩ := trodVars_none hV
  have k0 := h0
  have k1 := h1
  have lt0 : ∀ x ∈ p0, x.block < W.heap.size := by obtain ⟨m, hm⟩ := k0; exact DataW.trod_lt m _ _ _ hm
  have lt1 : ∀ x ∈ p1, x.block < W.heap.size := by obtain ⟨m, hm⟩ := k1; exact DataW.trod_lt m _ _ _ hm
  obtain ⟨ks, hks, hkl, hkk⟩ := openTxs (hval 0 27 v0 rfl rfl) h0
  obtain ⟨us, hus, hul, huk⟩ := openTxs (hval 1 27 v1 rfl rfl) h1
  have hsmall : Rows.uptoBulkAll ([d0, d1] ++ []) ≤ 1048576 := of_decide_eq_true hk
  simp only [List.append_nil, Rows.uptoBulkAll] at hsmall
  clear hA0 hval0
  refine (walk v0 v1 ks us (by omega) (fun j t ht => by have := hkk j t ht; omega) (by omega) W hks hus).mono fun e W' ⟨he, bel⟩ => ?_
  subst he
  exact ⟨_, rfl, _, _, _, [], _, [], hW', trodAll_mk1 (shut_bool Try.underlying4 _), (trodAll_cons_mk (Below.trod laidOut (by kernel_rfl) (of_decide_eq_true (by kernel_rfl)) k0 bel lt0) (trodAll_cons_mk (Below.trod laidOut (by kernel_rfl) (of_decide_eq_true (by kernel_rfl)) k1 bel lt1) trodAll_mk0)), rfl, bel.frame _, fun h => by cases h⟩

theorem proved : Rows.SortedTextsUptoSaid :=
  OpenClaim.holds_of_cond 6 Try.f6 rfl rfl rfl rfl rfl rfl rfl ⟨rfl, rfl, rfl, rfl, rfl⟩ rfl rfl rfl rfl rfl (by kernel_rfl) Try.func6 (by kernel_rfl)
    (of_decide_eq_true (by kernel_rfl)) (by unfold Func.isWrapper; first | (rw [if_pos (by decide +kernel)]; kernel_rfl) | (rw [if_neg (by decide +kernel)]; exact ⟨rfl, rfl⟩))
    (fun os started H enc _ F => lifted os started H enc F)
end Go.Proofs.Ytkohcdefhaokiaa.T.sortedTexts

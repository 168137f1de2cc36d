/-
  Package seglog's Open of every disk: its walk.
-/
import Derived.Test.YteifkkceldlfnaaGreatDoorG6Opn
namespace Go.Proofs.YteifkkceldlfnaaGreatDoor
open Go.RowKit Go.Shelf Go.Sort
open Go.Lib hiding intOf

/-- Open's answer -/
def OpnR (w : World) (B d : Nat) (es : List Le) (mo : Option Nat) (st : Ab) (pre : ByteArray) (sz : Nat) (e : Ending) (w' : World) : Prop :=
  ∃ ps, PsOf pre (st.1.map (·.1)) ps ∧ (((gOpn pre ps st).1 ≠ 0 ∧ e = .returned (.tuple #[.pointer none, .int .i64 (gOpn pre ps st).1]) ∧ Did w B d es mo w' (gOpn pre ps st).2.2) ∨ ((gOpn pre ps st).1 = 0 ∧ ∃ lb, e = .returned (.tuple #[.pointer (some ⟨lb, 0, none⟩), .int .i64 0]) ∧ Lft (foot d mo es) w B lb d (lgOf pre sz (gOpn pre ps st).2.1) (gOpn pre ps st).2.2 w'))
theorem fls_ok {w : World} {B d : Nat} {st : Ab} {pre : ByteArray} {ps : List Nat} (h : St w B d st) (hps : PsOf pre (st.1.map (·.1)) ps) : ((ps.map (flN st pre)).map (·.1)).Pairwise (· < ·) ∧ ∀ x ∈ ps.map (flN st pre), 1 ≤ x.1 ∧ x.1 ≤ 1099511627777 ∧ x.2.length ≤ 1048576 := by
  refine ⟨?_, fun x hx => ?_⟩
  · rw [List.map_map]
    have : ((fun x : Nat × List UInt8 => x.1) ∘ flN st pre) = id := rfl
    rw [this, List.map_id]
    exact hps.rise
  · obtain ⟨n, hn, rfl⟩ := List.mem_map.1 hx
    obtain ⟨k1, k2, k3⟩ := (hps.iff n).1 hn
    refine ⟨k1, k2, ?_⟩
    have := h.facts.2.2.2 _ k3
    show (flB st pre n).length ≤ _
    unfold flB
    simpa using this
set_option maxHeartbeats 4000000 in
set_option maxRecDepth 100000 in
theorem Open_any {w : World} {B d sz : Nat} {es : List Le} {p : Int} {mo : Option Nat} {pre : ByteArray} (h : Ld w B d es p false mo) (hp : isP pre = true) (h1 : 64 ≤ sz) (h2 : sz ≤ 65536) (hv : Gv B w) (he : Ev B w) (hB : B ≤ w.heap.size) :
    Calls Tryz.prog 9 #[.pointer (some ⟨d, 0, none⟩), .string pre, .int .i64 (sz : Int)] w (OpnR w B d es mo (fil es, p, false) pre sz) := by
  have hpz : 1 ≤ pre.size ∧ pre.size ≤ 8 := by
    unfold isP at hp
    simp only [Bool.and_eq_true, decide_eq_true_eq] at hp
    exact hp.1
  have hpz2 : pre.size ≤ 281474976710656 := by omega
  have hq := dskEql d
  have hS : St w B d (fil es, p, false) := ⟨es, mo, h, rfl⟩
  have cP := isPrefix_any pre w
  rw [hp] at cP
  have cO := fun W (hW : Below w.heap.size w W) => sOff (hS.below hW)
  have HCL : Hid (∀ W, Below w.heap.size w W → Calls Tryz.prog 30 #[.pointer (some ⟨d, 0, none⟩), .string pre] W fun e w' => LodR W pre (fil es, p, false) e w' ∧ Below W.heap.size W w') := fun W hW => load_any (hS.below hW) rfl pre hpz.2 (hv.below (hW.mono hB)) (he.below (hW.mono hB)) (Nat.le_trans hB hW.size)
  have k1 : ¬ (sz : Int) < 64 := by omega
  have k2 : ¬ (65536 : Int) < (sz : Int) := by omega
  have HH : Hid (Ld w B d es p false mo ∧ St w B d (fil es, p, false)) := ⟨h, hS⟩
  have HOK : Hid (∀ ps segs tn, PsOf pre ((fil es).map (·.1)) ps → ldG (ps.map (flN (fil es, p, false) pre)) = some (segs, tn) → Ok (lgOf pre sz segs) ∧ ∀ s ∈ segs, s.first < 18446744073709551616 ∧ s.next ≤ 1099511627777) := fun ps segs tn hps hl => by
    obtain ⟨a1, a2⟩ := fls_ok hS hps
    have g := ldG_good _ _ rfl a1 a2 segs tn hl
    refine ⟨lgOf_ok hp h1 h2 g, fun s hs => ?_⟩
    have := (g.each s hs).2.1
    refine ⟨?_, this⟩
    unfold Sg.next at this
    omega
  clear h hS hv he
  go_enter Tryz.func9, Tryz.ntmps9
  go_wp2_with (first
    | (go_at_call 28; refine cP.mono ?_; rintro e w1 ⟨rfl, hb1⟩; have HB1 : Hid (Below w.heap.size w w1) := hb1; clear hb1)
    | (go_at_call 29; refine (cO _ HB1.out).mono ?_; rintro e w2 ⟨rfl, rfl⟩))
  refine (HCL.out _ HB1.out).mono ?_
  rintro e w3 ⟨⟨ps, hps, ⟨ws, sl, tn, q1, rfl, q2, q3, q4, q5⟩ | ⟨q1, rfl⟩⟩, b3⟩
  · have HB3 : Hid (Below w.heap.size w w3) := HB1.out.trans (b3.mono HB1.out.size)
    obtain ⟨a, c, rfl, -⟩ := row_slice q2
    obtain ⟨m, HMM⟩ : ∃ m, Hid (ws.length = m) := ⟨_, show _ = _ from rfl⟩
    rw [HMM.out] at q2 ⊢
    obtain ⟨ok, hfn⟩ := HOK.out ps _ tn hps q1
    have HPS : Hid (PsOf pre ((fil es).map (·.1)) ps ∧ ldG (ps.map (flN (fil es, p, false) pre)) = some (ws.map Sv.sg, tn)) := ⟨hps, q1⟩
    rename_i w2
    have hz1 := HB1.out.size
    have HM : Hid (∀ W, Below w3.heap.size w3 W → Lw (W.alloc (.cells #[.pointer (some ⟨d, 0, none⟩), .string pre, .int .i64 (sz : Int), .slice a m c, .int .u64 1, .int .u64 0] 82)) w.heap.size W.heap.size d ⟨pre, sz, ws.map Sv.sg, 1, 0⟩ ws (.slice a m c) ∧ Below w.heap.size w (W.alloc (.cells #[.pointer (some ⟨d, 0, none⟩), .string pre, .int .i64 (sz : Int), .slice a m c, .int .u64 1, .int .u64 0] 82))) := fun W hW => by
      have hbw := HB3.out.trans (hW.mono HB3.out.size)
      refine ⟨(opn_made (d := d) (sz := sz) (by rw [HMM.out]; exact (show Ch (fun _ => False) w3 W from Ch.of_below hW).row q2 (fun _ _ => id)) (fun v hv => (q3 v hv).below hW) q4 (Nat.le_trans b3.size hW.size)).lower hz1, hbw.alloc hbw.size _⟩
    have HK : Hid (Ok (lgOf pre sz (ws.map Sv.sg))) := ok
    clear q1 q2 q3 q4 b3 hps HOK ok
    rcases List.eq_nil_or_concat ws with rfl | ⟨xs, v, hws⟩
    · go_wp2_with (first
        | (go_at_call 31; refine (clone_any pre _ hpz2).mono ?_; rintro e w4 ⟨rfl, hb4⟩; obtain ⟨hl, hbl⟩ := HM.out w4 hb4; have cLa := last_none hl; have n4 := hl.c4; have n5 := hl.c5; have f5 := hl.fro 5; simp only at n4 n5; (have HF : Hid _ := fun q => opn_fin0 HH.out.1 hbl hl (Nat.le_refl _) hB HK.out q); clear hl hb4 hbl)
        | (go_at_call 32; refine cLa.mono ?_; rintro e w6 ⟨rfl, q6, rfl⟩))
      go_ret2
      refine ⟨ps, HPS.out.1, .inr ?_⟩
      have e : gOpn pre ps (fil es, p, false) = (0, [], (fil es, p, false)) := by unfold gOpn; rw [HPS.out.2]; rfl
      rw [e]
      exact ⟨rfl, w4.heap.size, rfl, HF.out q6⟩
    · rw [List.concat_eq_append] at hws
      subst hws
      have hlen : xs.length < 4611686018427387904 := by
        have := HK.out.count
        simp only [lgOf, List.length_map, List.length_append, List.length_singleton] at this
        omega
      have hlg : lgOf pre sz ((xs ++ [v]).map Sv.sg) = ⟨pre, sz, (xs ++ [v]).map Sv.sg, v.sg.next, v.sg.next⟩ := by
        unfold lgOf
        rw [List.map_append, List.map_singleton, ldNx_snoc]
      have HK2 : Hid (Ok ⟨pre, sz, (xs ++ [v]).map Sv.sg, v.sg.next, v.sg.next⟩) := by have := HK.out; rw [hlg] at this; exact this
      have hvm : v ∈ xs ++ [v] := by simp
      obtain ⟨hf1, hf2⟩ := hfn v.sg (List.mem_map_of_mem hvm)
      have hnz := nam_size pre v.sg.first hpz.2 hf1
      have hnx : v.sg.next ≤ 9223372036854775807 := by omega
      obtain ⟨no, st2, hst⟩ : ∃ no st2, stl (fil es, p, false) (nam pre v.sg.first) v.sg.size tn = (no, st2) := ⟨_, _, rfl⟩
      have HG : Hid (gOpn pre ps (fil es, p, false) = (no, (xs ++ [v]).map Sv.sg, st2)) := by
        show _ = _
        unfold gOpn
        rw [HPS.out.2]
        simp only [List.map_append, List.map_singleton, List.getLast?_append, List.getLast?_singleton, Option.some_or, hst]
      have HSET : Hid (∀ (W : World) (lb : Nat) (lg : Lg) (sl : Value), Lw W w.heap.size lb d lg (xs ++ [v]) sl → lg.pre = pre → Below w.heap.size w W → ∀ q, Calls Tryz.prog 33 #[.pointer (some ⟨d, 0, none⟩), .pointer (some ⟨v.g, 0, none⟩), .bool tn] (W.drewN q) fun e w' => e = .returned (.int .i64 no) ∧ Did (W.drewN q) B d es mo w' st2) := fun W lb lg sl hl hpr hb q => by
        have L1 := HH.out.1.below (below_drewN' hb q)
        have W1 := (hl.drewN q).lower hB
        have S1 := W1.sw v hvm
        rw [hpr] at S1
        have := settle_any L1 S1.c0 S1.c2 (W1.not_ld L1 (.inr (.inr ⟨v, hvm, .inl rfl⟩))) S1.lt (by omega) tn
        rw [hst] at this
        exact this
      have HFIN : Hid (∀ (W : World) (lb : Nat), Lw W w.heap.size lb d ⟨pre, sz, (xs ++ [v]).map Sv.sg, 1, 0⟩ (xs ++ [v]) (.slice a m c) → Below w.heap.size w W → ∀ q6 w6, Did (W.drewN q6) B d es mo w6 st2 → Lw w6 B lb d ⟨pre, sz, (xs ++ [v]).map Sv.sg, 1, 0⟩ (xs ++ [v]) (.slice a m c) ∧ Did w B d es mo w6 st2 ∧ ∀ q, Lft (foot d mo es) w B lb d ⟨pre, sz, (xs ++ [v]).map Sv.sg, v.sg.next, v.sg.next⟩ st2 (((w6.drewN q).setCell ⟨lb, 4, none⟩ (.int .u64 (v.sg.next : Int))).setCell ⟨lb, 5, none⟩ (.int .u64 (v.sg.next : Int)))) := fun W lb hl hb q6 w6 D => by
        have L1 := HH.out.1.below (below_drewN' hb q6)
        refine ⟨((hl.drewN q6).lower hB).did (st := (fil es, p, false)) L1 D, ?_, fun q => opn_fin HH.out.1 hb hl (Nat.le_refl _) hB D q HK2.out⟩
        exact Did.also (es1 := es) (mo1 := mo) (Ch.of_below (below_drewN' hb q6)) (fun x hx => .inl hx) D
      have hne := nilEql v.g
      clear hst hfn HK hlg
      by_cases hno : no = 0
      · subst hno
        go_wp2_with (first
          | (go_at_call 31; refine (clone_any pre _ hpz2).mono ?_; rintro e w4 ⟨rfl, hb4⟩; obtain ⟨hl, hbl⟩ := HM.out w4 hb4; have cLa := last_some hl hlen; (have cS := HSET.out _ _ _ _ hl rfl hbl); (have HF : Hid _ := HFIN.out _ _ hl hbl); clear hl hb4 hbl)
          | (go_at_call 32; refine cLa.mono ?_; rintro e w6 ⟨rfl, q6, rfl⟩)
          | (go_at_call 33; refine (cS _).mono ?_; rintro e w7 ⟨rfl, D7⟩; obtain ⟨L7, -, F7⟩ := HF.out _ _ D7; (have cN := next_any (L7.sw v hvm) hnx); have n4 := L7.c4; have n5 := L7.c5; have f4 := L7.fro 4; have f5 := L7.fro 5; simp only at n4 n5; have HF7 : Hid _ := F7; clear D7 L7 F7)
          | (go_at_call 34; refine cN.mono ?_; rintro e w8 ⟨rfl, q8, rfl⟩))
        go_ret2
        refine ⟨ps, HPS.out.1, .inr ?_⟩
        rw [HG.out]
        refine ⟨rfl, w4.heap.size, rfl, ?_⟩
        have := HF7.out q8
        unfold lgOf
        rw [List.map_append, List.map_singleton, ldNx_snoc]
        rw [List.map_append, List.map_singleton] at this
        exact this
      · have hbe : (no != 0) = true := by simpa using hno
        go_wp2_with (first
          | (go_at_call 31; refine (clone_any pre _ hpz2).mono ?_; rintro e w4 ⟨rfl, hb4⟩; obtain ⟨hl, hbl⟩ := HM.out w4 hb4; have cLa := last_some hl hlen; (have cS := HSET.out _ _ _ _ hl rfl hbl); (have HF : Hid _ := HFIN.out _ _ hl hbl); clear hl hb4 hbl)
          | (go_at_call 32; refine cLa.mono ?_; rintro e w6 ⟨rfl, q6, rfl⟩)
          | (go_at_call 33; refine (cS _).mono ?_; rintro e w7 ⟨rfl, D7⟩; obtain ⟨-, F7, -⟩ := HF.out _ _ D7; have HF7 : Hid _ := F7; clear D7 F7))
        go_ret2
        refine ⟨ps, HPS.out.1, .inl ?_⟩
        rw [HG.out]
        exact ⟨hno, rfl, HF7.out⟩
  · go_wp2
    go_ret2
    refine ⟨ps, hps, .inl ?_⟩
    have e : gOpn pre ps (fil es, p, false) = (3, [], (fil es, p, false)) := by unfold gOpn; rw [q1]
    rw [e]
    have hb := HB1.out.trans (b3.mono HB1.out.size)
    exact ⟨by show (3 : Int) ≠ 0; decide, rfl, es, mo, HH.out.1.below hb, rfl, Ch.of_below hb, fun x hx => .inl hx⟩
end Go.Proofs.YteifkkceldlfnaaGreatDoor

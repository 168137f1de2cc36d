/-
  Package model: leading, Loops.
-/
import Derived.Test.YtlmdoiagjepmbaaGreatDoorM11Plc
import Derived.Test.YtlmdoiagjepmbaaGreatDoorGRound
import Derived.Test.YtlmdoiagjepmbaaGreatDoorM11Out
namespace Go.Proofs.YtlmdoiagjepmbaaGreatDoor.m11
open Go.Proofs.YtlmdoiagjepmbaaGreatDoor.x10
open Go.RowKit Go.Shelf Go.Sort
open Go.Lib hiding intOf

set_option maxHeartbeats 1000000 in
set_option maxRecDepth 100000 in
theorem indexFuncInt {w : World} {v : Value} {l : List Int} {kf : Nat} {caps : Array Value} (q : Int → Bool) (hv : Is w v l) (hn : l.length ≤ 4611686018427387904) (ek : Ent0 kf) (hq : ∀ x ∈ l, Say w kf caps #[.int .i64 x] (q x)) :
    Calls Tryz.prog 81 #[v, .func (.func kf) #[] caps] w fun e w' => e = .returned (.int .i64 (fix q l)) ∧ Below w.heap.size w w' := by
  have HQ : Hid (∀ x ∈ l, Say w kf caps #[.int .i64 x] (q x)) := hq
  obtain ⟨a, cap, rfl, hc⟩ := hv
  have HC : Hid (l = [] ∨ ∃ b off, a = some ⟨b, off, none⟩ ∧ b < w.heap.size ∧ ∀ (j : Nat) (h : j < l.length), w.cell? ⟨b, off + j, none⟩ = some (.int .i64 l[j])) := hc
  unfold Ent0 at ek
  clear hq hc
  go_enter Tryz.func81, Tryz.ntmps81
  go_wp2
  go_loopw [8] (fun v8 wr => ∃ j : Nat, v8 = .int .i64 (j : Int) ∧ j ≤ l.length ∧ Hid (Below w.heap.size w wr ∧ ∀ (i : Nat) (hi : i < j) (hl : i < l.length), q l[i] = false)) (fun v8 _ => l.length - (intOf v8).toNat)
  case atStart => exact ⟨0, rfl, Nat.zero_le _, Below.refl _ _, fun i hi => by omega⟩
  case round =>
    obtain ⟨j, rfl, hj, HB⟩ := hrel
    by_cases hjl : j < l.length
    · have hjl' : (j : Int) < (l.length : Int) := by omega
      have hj0 : (0 : Int) ≤ (j : Int) := by omega
      rcases HC.out with h | ⟨b, off, rfl, hlt, hc⟩
      · rw [h] at hjl; cases hjl
      have m0 := (HB.out.1.cell (p := ⟨b, off + j, none⟩) hlt).trans (hc j hjl)
      have CG := HQ.out l[j] (List.getElem_mem hjl) wr HB.out.1
      by_cases hx : q l[j] = true
      · have HE : Hid (fix q l = (j : Int)) := by
          show _ = _
          unfold fix
          rw [findIdx_next hjl (fun i hi => HB.out.2 i hi (by omega)) hx]
        rw [hx] at CG
        clear hx HQ HC hc hlt
        generalize l[j] = x at *
        go_wp2
        refine CG.mono ?_
        rintro e w1 ⟨rfl, b1⟩
        have B1 : Hid (Below w.heap.size w w1) := bel_of HB.out.1 b1 (Nat.le_refl _)
        clear b1 CG HB
        go_wp2
        go_ret
        rw [HE.out]
        exact ⟨rfl, B1.out⟩
      · have hx' : q l[j] = false := by simpa using hx
        have HP' : Hid (∀ (i : Nat) (hi : i < j + 1) (hl : i < l.length), q l[i] = false) := fun i hi hl => by
          by_cases e : i = j
          · subst e; exact hx'
          · exact HB.out.2 i (by omega) hl
        rw [hx'] at CG
        clear hx hx' HQ HC hc hlt
        generalize l[j] = x at m0 CG
        go_wp2
        refine CG.mono ?_
        rintro e w1 ⟨rfl, b1⟩
        have B1 : Hid (Below w.heap.size w w1) := bel_of HB.out.1 b1 (Nat.le_refl _)
        clear b1 CG HB
        go_wp2
        go_roundw
        case rel => exact ⟨j + 1, by simp, by omega, B1.out, HP'.out⟩
        case measure => simp [intOf]; omega
    · have hjl' : ¬ (j : Int) < (l.length : Int) := by omega
      have HE : Hid (fix q l = -1) := by
        show _ = _
        unfold fix
        rw [findIdx_none (fun i hi => HB.out.2 i (by omega) hi)]
      have B1 : Hid (Below w.heap.size w wr) := HB.out.1
      clear HQ HC HB
      go_wp2
      go_ret
      rw [HE.out]
      exact ⟨rfl, B1.out⟩

set_option maxHeartbeats 400000 in
theorem containsFuncInt {w : World} {v : Value} {l : List Int} {kf : Nat} {caps : Array Value} (q : Int → Bool) (hv : Is w v l) (hn : l.length ≤ 4611686018427387904) (ek : Ent0 kf) (hq : ∀ x ∈ l, Say w kf caps #[.int .i64 x] (q x)) :
    Calls Tryz.prog 41 #[v, .func (.func kf) #[] caps] w fun e w' => e = .returned (.bool (l.any q)) ∧ Below w.heap.size w w' := by
  have CI := indexFuncInt q hv hn ek hq
  have HD : Hid (decide (0 ≤ fix q l) = l.any q) := fix_nonneg q l
  obtain ⟨a, cap, rfl, -⟩ := hv
  generalize fix q l = r at *
  clear hq ek
  go_enter Tryz.func41, Tryz.ntmps41
  go_wp2_with (go_at_call 81; refine CI.mono ?_; rintro e w1 ⟨rfl, hb1⟩; (have B1 : Hid (Below w.heap.size w w1) := hb1); clear hb1 CI)
  go_ret
  rw [← HD.out]
  exact ⟨rfl, B1.out⟩
end Go.Proofs.YtlmdoiagjepmbaaGreatDoor.m11
namespace Go.Proofs.YtlmdoiagjepmbaaGreatDoor.m11
open Go.Proofs.YtlmdoiagjepmbaaGreatDoor.x10
open Go.RowKit Go.Shelf Go.Sort
open Go.Lib hiding intOf

set_option maxHeartbeats 400000 in
theorem lead1_any {w : World} {nb pb : Nat} {nv fv v : Value} {P : Pc} {l : List Int} (hb : Pb w pb nv fv P) (hn : w.cell? ⟨nb, 0, none⟩ = some v) (hv : Is w v l) (hl : l.length ≤ 4611686018427387904) {j : Nat} (hj : j < P.flows.length) :
    Calls Tryz.prog 43 #[.int .i64 (j : Int), .pointer (some ⟨nb, 0, none⟩), .pointer (some ⟨pb, 0, none⟩)] w fun e w' => e = .returned (.bool (l.contains P.flows[j].dst)) ∧ Below w.heap.size w w' := by
  obtain ⟨b0, b1, b2, blt, bpo⟩ := hb
  obtain ⟨b', off, cap', hsl, hcap, hbl, hcell⟩ := bpo.fs.at hj
  subst hsl
  have dm := (hcell _ (Below.refl _ _) j hj).c1
  have CC : ∀ m, Calls Tryz.prog 44 #[v, .int .i64 P.flows[j].dst] (w.drewN m) fun e w' => e = .returned (.bool (l.contains P.flows[j].dst)) ∧ w' = w.drewN m := fun m => contains_any _ (hv.up (below_drewN (Below.refl _ w) m)) hl
  obtain ⟨a, cap, rfl, -⟩ := hv
  have j1 : (0 : Int) ≤ (j : Int) := by omega
  have j2 : (j : Int) < (P.flows.length : Int) := by omega
  generalize P.flows[j].dst = y at *
  clear hcell bpo
  go_enter Tryz.func43, Tryz.ntmps43
  go_wp2
  go_quiet (first | (go_at_call 44; refine Calls.quiet_of_same (CC _)))
  go_wp2
  go_ret
  exact ⟨rfl, below_drewN (Below.refl _ w) _⟩
end Go.Proofs.YtlmdoiagjepmbaaGreatDoor.m11
namespace Go.Proofs.YtlmdoiagjepmbaaGreatDoor.m11
open Go.Proofs.YtlmdoiagjepmbaaGreatDoor.x10
open Go.RowKit Go.Shelf Go.Sort
open Go.Lib hiding intOf

theorem ldg_next (q : Int → Bool) {l : List Int} {k : Nat} (h : k < l.length) : (l.take (k + 1)).filter q = (l.take k).filter q ++ (if q l[k] then [l[k]] else []) := by
  rw [tk_succ h, List.filter_append]
  congr 1
  cases hq : q l[k] <;> simp [hq]

set_option maxHeartbeats 4000000 in
set_option maxRecDepth 100000 in
theorem leading_any {w : World} {nv fv v : Value} {P : Pc} {l : List Int} (hp : Po w nv fv P) (hz : Pz P) (hv : Is w v l) (hn : l.length ≤ 4398046511104) :
    Calls Tryz.prog 21 #[pV P.id nv fv, v] w fun e w' => ∃ a c, e = .returned (.slice a (ldg P l).length c) ∧ Is w' (.slice a (ldg P l).length c) (ldg P l) ∧ Below w.heap.size w w' := by
  have hmf : ∀ (fn : Fn) (first cap : Array Value) (w : World), (Instr.makeFunc fn first cap).run Tryz.prog w = .ok (.func fn first cap) w := fun _ _ _ _ => rfl
  obtain ⟨i0, hi0, hz0, hz1, hz2⟩ := info_parts infoI
  obtain ⟨W1, hW1⟩ : ∃ W1, (w.alloc (.cells #[.string (S P.id), nv, fv] 25)).alloc (.cells #[v] 46) = W1 := ⟨_, rfl⟩
  have hB1 : Below w.heap.size w W1 := by rw [← hW1]; exact ((Below.refl _ w).alloc (Nat.le_refl _) _).alloc (by simp) _
  have hs1 : W1.heap.size = w.heap.size + 2 := by rw [← hW1]; simp
  have hcn : W1.cell? ⟨w.heap.size + 1, 0, none⟩ = some v := by
    rw [← hW1]
    have := World.cell?_alloc_new (w.alloc (.cells #[.string (S P.id), nv, fv] 25)) #[v] 46 0
    rw [World.size_alloc] at this
    exact this
  have hcp : ∀ k : Nat, W1.cell? ⟨w.heap.size, k, none⟩ = (#[.string (S P.id), nv, fv] : Array Value)[k]? := by
    intro k
    rw [← hW1]
    exact (((Below.refl _ _).alloc (Nat.le_refl _) _).cell (p := ⟨w.heap.size, k, none⟩) (by simp)).trans (World.cell?_alloc_new w #[.string (S P.id), nv, fv] 25 k)
  have hb1 : Pb W1 w.heap.size nv fv P := ⟨hcp 0, hcp 1, hcp 2, by omega, hp.up hB1⟩
  have hv1 : Is W1 v l := hv.up hB1
  have HM : Hid (∀ wr, Below W1.heap.size W1 wr → Pb wr w.heap.size nv fv P ∧ wr.cell? ⟨w.heap.size + 1, 0, none⟩ = some v ∧ w.heap.size + 1 < wr.heap.size ∧ Is wr v l) := fun wr hb => ⟨hb1.up hb, (hb.cell (p := ⟨w.heap.size + 1, 0, none⟩) (by show w.heap.size + 1 < _; omega)).trans hcn, by have := hb.size; omega, hv1.up hb⟩
  have HW : Hid (_ = W1) := hW1
  have HB1 : Hid (Below w.heap.size w W1) := hB1
  obtain ⟨na, nc, rfl, -⟩ := hp.ns
  obtain ⟨fa', fc', rfl, -⟩ := hp.fs
  obtain ⟨a, cap, rfl, -⟩ := hv
  unfold pV
  clear hW1 hB1 hcn hcp hb1 hv1 hs1 hp
  go_enter Tryz.func21, Tryz.ntmps21
  go_wp2
  rw [HW.out]
  go_loopw [10, 5] (fun v10 v5 wr => ∃ (j : Nat) (f : List Int) (fa : Option Addr) (fc : Nat), v10 = .int .i64 (j : Int) ∧ v5 = .slice fa f.length fc ∧ j ≤ l.length ∧ f.length ≤ j ∧ Hid (wr.ownsRow W1.heap.size 3 1 (.slice fa f.length fc) f.length (iv f)) ∧ Hid (Below W1.heap.size W1 wr) ∧ Hid (f = (l.take j).filter (led P l))) (fun v10 _ _ => l.length - (intOf v10).toNat)
  case atStart => exact ⟨0, [], none, 0, rfl, rfl, Nat.zero_le _, Nat.zero_le _, ⟨rfl, .inl ⟨rfl, rfl⟩⟩, Below.refl _ _, rfl⟩
  case round =>
    obtain ⟨j, f, fa, fc, rfl, rfl, hj, hf, HF, HB, HP⟩ := hrel
    by_cases hjl : j < l.length
    · have hjl' : (j : Int) < (l.length : Int) := by omega
      have hj0 : (0 : Int) ≤ (j : Int) := by omega
      obtain ⟨hpb, hcn, hlt, his⟩ := HM.out wr HB.out
      have HN : Hid ((l.take (j + 1)).filter (led P l) = f ++ (if led P l l[j] then [l[j]] else [])) := by show _ = _; rw [HP.out]; exact ldg_next _ hjl
      have CO := Outs_any hpb.po hz l[j]
      have HG : Hid (∀ w2 rv, Below wr.heap.size wr w2 → Is w2 rv (ous P l[j]) → Calls Tryz.prog 41 #[rv, .func (.func 43) #[] #[.pointer (some ⟨w.heap.size + 1, 0, none⟩), .pointer (some ⟨w.heap.size, 0, none⟩)]] w2 fun e w' => e = .returned (.bool (led P l l[j])) ∧ Below w2.heap.size w2 w') := by
        intro w2 rv hb2 hrv
        obtain ⟨kpb, kcn, klt, kis⟩ := HM.out w2 (HB.out.trans (hb2.mono HB.out.size))
        refine containsFuncInt (fun k => l.contains (P.flows[k.toNat]?.getD f0).dst) hrv (Nat.le_trans (plc_le _ _) (by have := hz.fl; omega)) (enters_of Tryz.func43 (by kernel_rfl) rfl) ?_
        intro x hx W hW
        obtain ⟨m, rfl, hm, -⟩ := plc_nonneg hx
        rw [Int.toNat_natCast, List.getElem?_eq_getElem hm, Option.getD_some]
        exact lead1_any (kpb.up hW) ((hW.cell (p := ⟨w.heap.size + 1, 0, none⟩) klt).trans kcn) (kis.up hW) (by omega) hm
      obtain ⟨a', cap', hsl, hc⟩ := his
      cases hsl
      rcases hc with h | ⟨b, off, rfl, hltb, hc⟩
      · rw [h] at hjl; cases hjl
      have m0 := hc j hjl
      obtain ⟨c0, c1, c2, clt, -⟩ := hpb
      have HY0 : Hid (∀ w2 w3, Below wr.heap.size wr w2 → Below w2.heap.size w2 w3 → Below W1.heap.size W1 w3 ∧ w3.ownsRow W1.heap.size 3 1 (.slice fa f.length fc) f.length (iv f)) := fun w2 w3 h2 h3 => ⟨HB.out.trans ((h2.trans (h3.mono h2.size)).mono HB.out.size), (Ch.of_below (X := fun _ => False) (h2.trans (h3.mono h2.size))).row HF.out (fun _ _ e => e)⟩
      unfold pV at CO
      clear hc HP HM
      generalize led P l l[j] = bx at *
      generalize ous P l[j] = os at *
      generalize l[j] = x at *
      cases bx with
      | false =>
        go_wp2_with (first
          | (go_at_call 42; refine CO.mono ?_; rintro e w2 ⟨ra, rc, rfl, hr, hb2⟩; (have CG := HG.out w2 _ hb2 hr); (have HY1 : Hid (∀ w3, Below w2.heap.size w2 w3 → _) := fun w3 => HY0.out w2 w3 hb2); clear hr hb2 CO HG HY0)
          | (go_at_call 41; refine CG.mono ?_; rintro e w3 ⟨rfl, hb3⟩; (have HY : Hid _ := HY1.out w3 hb3); clear hb3 CG HY1))
        go_roundw
        case rel => exact ⟨j + 1, f, fa, fc, by simp, rfl, by omega, by omega, HY.out.2, HY.out.1, by show _ = _; rw [HN.out]; simp⟩
        case measure => simp [intOf]; omega
      | true =>
        go_wp2_with (first
          | (go_at_call 42; refine CO.mono ?_; rintro e w2 ⟨ra, rc, rfl, hr, hb2⟩; (have CG := HG.out w2 _ hb2 hr); (have HY1 : Hid (∀ w3, Below w2.heap.size w2 w3 → _) := fun w3 => HY0.out w2 w3 hb2); clear hr hb2 CO HG HY0)
          | (go_at_call 41; refine CG.mono ?_; rintro e w3 ⟨rfl, hb3⟩; (have HY : Hid _ := HY1.out w3 hb3); clear hb3 CG HY1)
          | (at_builtin; refine wpList_append_own _ rfl _ _ 46 rfl W1.heap.size 3 i0 _ 1 8 Tryz.underlying46 hi0 hz0 hz1 hz2 rfl (by decide) _ f.length (iv f) rfl (HY.out.2.alloc _) ⟨w3.heap.size, 0, none⟩ 1 1 [.int .i64 x] rfl rfl (new_one _ _ rfl _ _) (by simp [Value.oneCell']) (by unfold maxLen; omega) (by omega) (by have := HY.out.1.size; simp; omega) ?_; intro v5 w5 ho5 hg5 _; have HO5 : Hid _ := ho5; have HG5 : Hid _ := hg5; obtain ⟨a5, c5', rfl, -⟩ := row_slice ho5; clear ho5 hg5))
        go_roundw
        case rel =>
          have hlen : (f ++ [x]).length = f.length + 1 := by rw [List.length_append, List.length_singleton]
          refine ⟨j + 1, f ++ [x], a5, c5', by simp, by rw [hlen], by omega, by rw [hlen]; omega, ?_, shd_below HY.out.1 HY.out.2 HG5.out, by show _ = _; rw [HN.out]; simp⟩
          show World.ownsRow _ _ _ _ _ _ _
          rw [hlen, ← iv_snoc]
          exact HO5.out
        case measure => simp [intOf]; omega
    · have hjl' : ¬ (j : Int) < (l.length : Int) := by omega
      obtain rfl : j = l.length := by omega
      have HE : Hid (ldg P l = f) := by show _ = _; rw [HP.out, List.take_length]; rfl
      clear HM HP
      go_wp2
      go_ret
      rw [HE.out]
      exact ⟨_, _, rfl, row_is HF.out, bel_of HB1.out HB.out (Nat.le_refl _)⟩
end Go.Proofs.YtlmdoiagjepmbaaGreatDoor.m11
namespace Go.Proofs.YtlmdoiagjepmbaaGreatDoor.m11
open Go.Proofs.YtlmdoiagjepmbaaGreatDoor.x10
open Go.RowKit Go.Shelf Go.Sort
open Go.Lib hiding intOf

def slLen : Value → Nat
  | .slice _ n _ => n
  | _ => 0

set_option maxHeartbeats 2000000 in
set_option maxRecDepth 100000 in
theorem Loops_any {w : World} {nv fv : Value} {P : Pc} (hp : Po w nv fv P) (hz : Pz P) (hg : Gg w) : Calls Tryz.prog 7 #[pV P.id nv fv] w fun e w' => e = .returned (.bool (lps P)) ∧ Below w.heap.size w w' := by
  obtain ⟨W1, hW1⟩ : ∃ W1, w.alloc (.cells #[.string (S P.id), nv, fv] 25) = W1 := ⟨_, rfl⟩
  have hB1 : Below w.heap.size w W1 := by rw [← hW1]; exact (Below.refl _ w).alloc (Nat.le_refl _) _
  have hs1 : W1.heap.size = w.heap.size + 1 := by rw [← hW1]; simp
  have hcp : ∀ k : Nat, W1.cell? ⟨w.heap.size, k, none⟩ = (#[.string (S P.id), nv, fv] : Array Value)[k]? := by
    intro k
    rw [← hW1]
    exact World.cell?_alloc_new w #[.string (S P.id), nv, fv] 25 k
  have hb1 : Pb W1 w.heap.size nv fv P := ⟨hcp 0, hcp 1, hcp 2, by omega, hp.up hB1⟩
  have HM : Hid (∀ wr, Below W1.heap.size W1 wr → Pb wr w.heap.size nv fv P) := fun wr hb => hb1.up hb
  have CK := Check_any (hp.up hB1) hz (hg.up hB1)
  have HW : Hid (_ = W1) := hW1
  have HB1 : Hid (Below w.heap.size w W1) := hB1
  have HPL : Hid (∀ wr, Below W1.heap.size W1 wr → Calls Tryz.prog 18 #[nv, .func (.func 19) #[] #[]] wr fun e w' => ∃ a c, e = .returned (.slice a (lft P).length c) ∧ Is w' (.slice a (lft P).length c) (lft P) ∧ Below wr.heap.size wr w') := fun wr hb => placesNode (kf := 19) (caps := #[]) (fun x => !(wai x.kind)) (HM.out wr hb).po.ns hz.nl (enters_of Tryz.func19 (by kernel_rfl) rfl) (fun x _ W _ => loops1_any x W)
  have HLD : Hid (∀ wr v l, Below W1.heap.size W1 wr → Is wr v l → l.length ≤ 4398046511104 → Calls Tryz.prog 21 #[pV P.id nv fv, v] wr fun e w' => ∃ a c, e = .returned (.slice a (ldg P l).length c) ∧ Is w' (.slice a (ldg P l).length c) (ldg P l) ∧ Below wr.heap.size wr w') := fun wr v l hb hi hn => leading_any (HM.out wr hb).po hz hi hn
  have hlft : (lft P).length ≤ 4398046511104 := Nat.le_trans (plc_le _ _) hz.nl
  have m1 := hb1.c0
  have m2 := hb1.c1
  have m3 := hb1.c2
  obtain ⟨na, nc, rfl, -⟩ := hp.ns
  obtain ⟨fa', fc', rfl, -⟩ := hp.fs
  have HL : Hid (lps P = ((chk P).1 == 0 && decide (0 < (rnd P (lft P)).length))) := by show _ = _; rfl
  generalize lps P = lp at *
  unfold pV at CK HLD ⊢
  clear hW1 hB1 hs1 hcp hb1 hp
  generalize (chk P).2 = at1 at *
  by_cases hk : (chk P).1 = 0
  · rw [hk] at CK HL
    clear hk
    go_enter Tryz.func7, Tryz.ntmps7
    go_wp2_with (first
      | (go_at_call 6; rw [HW.out]; refine CK.mono ?_; rintro e w1 ⟨rfl, hb⟩; (have HB : Hid (Below W1.heap.size W1 w1) := hb); (obtain ⟨n1, n2, n3, nlt, -⟩ := HM.out w1 hb); (have CP := HPL.out w1 hb); clear hb CK HPL m1 m2 m3)
      | (go_at_call 18; refine CP.mono ?_; rintro e w2 ⟨ra, rc, rfl, hr, hb2⟩; (have HB2 : Hid (Below W1.heap.size W1 w2 ∧ Is w2 (.slice ra (lft P).length rc) (lft P)) := ⟨HB.out.trans (hb2.mono HB.out.size), hr⟩); clear hb2 hr CP HB n1 n2 n3 nlt))
    go_loopw [5] (fun v5 wr => ∃ (l : List Int) (a : Option Addr) (c : Nat), v5 = .slice a l.length c ∧ l.length ≤ 4398046511104 ∧ Hid (Is wr (.slice a l.length c) l) ∧ Hid (Below W1.heap.size W1 wr) ∧ Hid (rnd P l = rnd P (lft P))) (fun v5 _ => slLen v5)
    case atStart => exact ⟨lft P, ra, rc, rfl, hlft, HB2.out.2, HB2.out.1, rfl⟩
    case round =>
      obtain ⟨l, a, c, rfl, hn, HI, HB, HR⟩ := hrel
      obtain ⟨n1, n2, n3, nlt, -⟩ := HM.out wr HB.out
      have CL := HLD.out wr _ l HB.out HI.out hn
      have hle := ldg_le P l
      by_cases he : (ldg P l).length = l.length
      · have HE : Hid (lp = decide (0 < l.length)) := by
          show _ = _
          rw [HL.out, ← HR.out, rnd_end he]
          simp
        rw [he] at CL
        clear HR HM HLD
        go_wp2_with (go_at_call 21; refine CL.mono ?_; rintro e w2 ⟨ra, rc, rfl, -, hb2⟩; (have HB2 : Hid (Below w.heap.size w w2) := bel_of HB1.out (HB.out.trans (hb2.mono HB.out.size)) (Nat.le_refl _)); clear hb2 CL)
        go_ret
        rw [HE.out]
        exact ⟨rfl, HB2.out⟩
      · have HE : Hid (rnd P (ldg P l) = rnd P (lft P)) := by show _ = _; rw [← HR.out, rnd_on he]
        have he' : ¬ ((ldg P l).length : Int) = (l.length : Int) := by omega
        have he2 : (((ldg P l).length : Int) == (l.length : Int)) = false := by simpa using he'
        clear HR HM
        generalize ldg P l = l2 at *
        go_wp2_with (go_at_call 21; refine CL.mono ?_; rintro e w2 ⟨ra, rc, rfl, hr, hb2⟩; (have HB2 : Hid (Below W1.heap.size W1 w2 ∧ Is w2 (.slice ra l2.length rc) l2) := ⟨HB.out.trans (hb2.mono HB.out.size), hr⟩); clear hb2 hr CL)
        go_roundw
        case rel => exact ⟨l2, ra, rc, rfl, by omega, HB2.out.2, HB2.out.1, HE.out⟩
        case measure => show l2.length < l.length; omega
  · have HE : Hid (lp = false) := by show _ = _; rw [HL.out]; simp [hk]
    have hk' : ((chk P).1 == 0) = false := by simpa using hk
    clear HL
    generalize (chk P).1 = e1 at *
    go_enter Tryz.func7, Tryz.ntmps7
    go_wp2_with (go_at_call 6; rw [HW.out]; refine CK.mono ?_; rintro e w1 ⟨rfl, hb⟩; (have HB : Hid (Below w.heap.size w w1) := bel_of HB1.out hb (Nat.le_refl _)); clear hb CK)
    go_ret
    rw [HE.out]
    exact ⟨rfl, HB.out⟩
end Go.Proofs.YtlmdoiagjepmbaaGreatDoor.m11

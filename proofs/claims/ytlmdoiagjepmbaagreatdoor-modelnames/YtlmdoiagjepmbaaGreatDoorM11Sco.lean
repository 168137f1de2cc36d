/-
  Package model: scopes.
-/
import Derived.Test.YtlmdoiagjepmbaaGreatDoorGRules
import Derived.Laws.OwnMore
import Derived.Lib.AppendZeros
namespace Go.Proofs.YtlmdoiagjepmbaaGreatDoor.m11
open Go.Proofs.YtlmdoiagjepmbaaGreatDoor.x10
open Go.RowKit Go.Shelf Go.Sort
open Go.Lib hiding intOf

def subs (P : Pc) : List Int := plc (fun x => isSu x.kind) P.nodes
def nst1 (P : Pc) (s : Int) : Bool := (plc (bgn s) P.nodes).length != 1
theorem wsc_eq (P : Pc) : wsc P = ((-1) :: subs P).find? (nst1 P) := rfl
theorem find_at {α : Type} {p : α → Bool} {l : List α} {j : Nat} (hj : j < l.length) (hp : p l[j] = true) (h : ∀ (i : Nat) (hi : i < j), p (l[i]'(by omega)) = false) : l.find? p = some l[j] := by
  rw [List.find?_eq_some_iff_getElem]
  exact ⟨hp, j, hj, rfl, fun i hi => by rw [h i hi]; rfl⟩
theorem find_no {α : Type} {p : α → Bool} {l : List α} (h : ∀ (i : Nat) (hi : i < l.length), p l[i] = false) : l.find? p = none := by
  rw [List.find?_eq_none]
  intro x hx
  obtain ⟨i, hi, rfl⟩ := List.getElem_of_mem hx
  rw [h i hi]; simp
theorem subs_le (P : Pc) : (subs P).length ≤ P.nodes.length := plc_le _ _
set_option maxRecDepth 100000 in
theorem subs_row {w : World} {nv : Value} {P : Pc} (hn : Ns w nv P.nodes) (hl : P.nodes.length ≤ 4398046511104) : Calls Tryz.prog 18 #[nv, .func (.func 34) #[] #[]] w fun e w' => ∃ a c, e = .returned (.slice a (subs P).length c) ∧ w'.ownsRow w.heap.size 3 1 (.slice a (subs P).length c) (subs P).length (iv (subs P)) ∧ Below w.heap.size w w' :=
  placesRowNode (fun x => isSu x.kind) hn hl (enters_of Tryz.func34 (by kernel_rfl) rfl) (fun x _ W _ => sub_any x W)
set_option maxRecDepth 100000 in
theorem starts_len {w : World} {nv : Value} {P : Pc} (hn : Ns w nv P.nodes) (hl : P.nodes.length ≤ 4398046511104) (s : Int) {b : Nat} (hc : w.cell? ⟨b, 0, none⟩ = some (.int .i64 s)) (hlt : b < w.heap.size) : Calls Tryz.prog 18 #[nv, .func (.func 36) #[] #[.pointer (some ⟨b, 0, none⟩)]] w fun e w' => (∃ a c, e = .returned (.slice a (plc (bgn s) P.nodes).length c)) ∧ Below w.heap.size w w' :=
  (placesNode (kf := 36) (caps := #[.pointer (some ⟨b, 0, none⟩)]) (bgn s) hn hl (enters_of Tryz.func36 (by kernel_rfl) rfl) (fun x _ W' hW' => scope2_any x W' ((hW'.cell (p := ⟨b, 0, none⟩) hlt).trans hc) (Nat.lt_of_lt_of_le hlt hW'.size))).mono fun e w' ⟨a, c, h1, _, h3⟩ => ⟨⟨a, c, h1⟩, h3⟩
theorem ml1 : 1 ≤ maxLen := by unfold maxLen; decide
set_option maxRecDepth 100000 in
theorem one_row (w : World) (B : Nat) (hB : B ≤ w.heap.size) : (w.alloc (.cells #[.int .i64 (-1)] 3)).ownsRow B 3 1 (.slice (some ⟨w.heap.size, 0, none⟩) 1 1) 1 [.int .i64 (-1)] := by
  refine ⟨rfl, .inr ⟨w.heap.size, 1, #[.int .i64 (-1)], rfl, hB, ?_, Nat.le_refl _, ml1, rfl, rfl⟩⟩
  show (w.heap.push _)[w.heap.size]? = _
  exact Array.getElem?_push_size

set_option maxRecDepth 100000 in
/-- a row of numbers behind the number -1 -/
theorem join_rows {w : World} {B B2 g : Nat} {U : List Int} {ua : Option Addr} {uc : Nat} (hr : w.ownsRow B 3 1 (.slice (some ⟨g, 0, none⟩) 1 1) 1 [.int .i64 (-1)]) (hu : w.ownsRow B2 3 1 (.slice ua U.length uc) U.length (iv U)) (hl : U.length ≤ 4398046511104) (hB : B ≤ w.heap.size) :
    ∃ va vc w5, (Builtin.append_ #[46, 46] 46 #[.slice (some ⟨g, 0, none⟩) 1 1, .slice ua U.length uc]).run Tryz.prog w = .ok (.slice va (((-1) :: U).length) vc) w5 ∧ Is w5 (.slice va (((-1) :: U).length) vc) ((-1) :: U) ∧ w.grownBy w5 (some g) := by
  obtain ⟨i0, hi0, hz0, hz1, hz2⟩ := info_parts infoI
  have his := row_is hu
  rcases hu.2 with ⟨h1, h2⟩ | ⟨g2, cap, cur, h3, -⟩
  · have hU : U = [] := List.eq_nil_of_length_eq_zero h2
    subst hU
    cases h1
    have r1 := run_append_owned_none (P := Tryz.prog) (w := w) B 46 46 3 i0 1 Tryz.underlying46 hi0 _ 1 _ hr
    exact ⟨_, _, w, r1, row_is (f := [(-1 : Int)]) hr, World.grownBy.refl _ _⟩
  · cases h3
    obtain ⟨a', c', e', hcc⟩ := his
    cases e'
    have hc : ∀ j u, (iv U)[j]? = some u → w.cell? ((⟨g2, 0, none⟩ : Addr).add j) = some u := fun j u hj => by
      obtain ⟨hjl, hje⟩ := List.getElem?_eq_some_iff.1 hj
      have hjl' : j < U.length := by simpa [iv] using hjl
      rcases hcc with hx | ⟨b2, o2, e2, hlt, hcc⟩
      · rw [hx] at hjl'; cases hjl'
      · cases e2
        rw [Addr.add_lit]
        refine (hcc j hjl').trans ?_
        rw [← hje]
        simp [iv]
    obtain ⟨v1, w1, r1, r2, r3, -⟩ := run_append_own w B 46 46 3 i0 (.int .i64 0) 1 8 Tryz.underlying46 hi0 hz0 hz1 hz2 rfl (by decide) _ 1 _ hr ⟨g2, 0, none⟩ U.length _ (iv U) (by simp [iv]) hc (by intro x hx; obtain ⟨y, _, rfl⟩ := List.mem_map.1 hx; rfl) (by unfold maxLen; omega) (by omega) hB
    have hlen : 1 + U.length = ((-1) :: U).length := by simp; omega
    rw [hlen] at r2
    have r2' : w1.ownsRow B 3 1 v1 ((-1) :: U).length (iv ((-1) :: U)) := r2
    obtain ⟨a1, k1, rfl, -⟩ := row_slice r2'
    exact ⟨a1, k1, w1, r1, row_is r2', r3⟩

set_option maxRecDepth 100000 in
set_option maxHeartbeats 1000000 in
theorem wrongScope_any {w : World} {nv fv : Value} {P : Pc} (hp : Po w nv fv P) (hz : Pz P) : Calls Tryz.prog 15 #[pV P.id nv fv] w fun e w' => e = .returned (.tuple #[.int .i64 ((wsc P).getD 0), .bool (wsc P).isSome]) ∧ Below w.heap.size w w' := by
  have hmf : ∀ (fn : Fn) (first cap : Array Value) (w : World), (Instr.makeFunc fn first cap).run Tryz.prog w = .ok (.func fn first cap) w := fun _ _ _ _ => rfl
  have hBa : Below w.heap.size w (w.alloc (.cells #[.string (S P.id), nv, fv] 25)) := (Below.refl _ w).alloc (Nat.le_refl _) _
  have hBb : Below (w.alloc (.cells #[.string (S P.id), nv, fv] 25)).heap.size (w.alloc (.cells #[.string (S P.id), nv, fv] 25)) ((w.alloc (.cells #[.string (S P.id), nv, fv] 25)).alloc (.cells #[.int .i64 (-1)] 3)) := (Below.refl _ _).alloc (Nat.le_refl _) _
  have hrow := one_row (w.alloc (.cells #[.string (S P.id), nv, fv] 25)) w.heap.size hBa.size
  have CC := subs_row (P := P) (hp.ns.up (bel_of hBa hBb (Nat.le_refl _))) hz.nl
  have hpb := Pb.new hp
  rw [World.size_alloc] at hrow
  have HJ : Hid (∀ w3 ua uc, w3.ownsRow ((w.alloc (.cells #[.string (S P.id), nv, fv] 25)).alloc (.cells #[.int .i64 (-1)] 3)).heap.size 3 1 (.slice ua (subs P).length uc) (subs P).length (iv (subs P)) → Below ((w.alloc (.cells #[.string (S P.id), nv, fv] 25)).alloc (.cells #[.int .i64 (-1)] 3)).heap.size ((w.alloc (.cells #[.string (S P.id), nv, fv] 25)).alloc (.cells #[.int .i64 (-1)] 3)) w3 → ∃ va vc w5, (Builtin.append_ #[46, 46] 46 #[.slice (some ⟨w.heap.size + 1, 0, none⟩) 1 1, .slice ua (subs P).length uc]).run Tryz.prog w3 = .ok (.slice va (((-1) :: subs P).length) vc) w5 ∧ Hid (Is w5 (.slice va (((-1) :: subs P).length) vc) ((-1) :: subs P) ∧ Pb w5 w.heap.size nv fv P ∧ Below w.heap.size w w5)) := fun w3 ua uc hu h3 => by
    have hr3 := (Ch.of_below (X := fun _ => False) h3).row hrow (fun _ _ e => e)
    obtain ⟨va, vc, w5, r1, r2, r3⟩ := join_rows hr3 hu (Nat.le_trans (subs_le P) hz.nl) (Nat.le_trans (Nat.le_trans hBa.size hBb.size) h3.size)
    have hb3 := bel_of hBb h3 (Nat.le_refl _)
    have hb5 : Below (w.alloc (.cells #[.string (S P.id), nv, fv] 25)).heap.size (w.alloc (.cells #[.string (S P.id), nv, fv] 25)) w5 := hb3.grown r3 hb3.size (fun k hk => by cases hk; simp)
    exact ⟨va, vc, w5, r1, r2, hpb.up hb5, bel_of hBa hb5 (Nat.le_refl _)⟩
  have HQ : Hid (∀ (W : World) (s : Int), Pb W w.heap.size nv fv P → Calls Tryz.prog 18 #[nv, .func (.func 36) #[] #[.pointer (some ⟨W.heap.size, 0, none⟩)]] (W.alloc (.cells #[.int .i64 s] 3)) fun e w' => (∃ a c, e = .returned (.slice a (plc (bgn s) P.nodes).length c)) ∧ Below (W.heap.size + 1) (W.alloc (.cells #[.int .i64 s] 3)) w') := fun W s hP => by
    have := starts_len (P := P) (hP.po.ns.up ((Below.refl _ W).alloc (Nat.le_refl _) (.cells #[.int .i64 s] 3))) hz.nl s (b := W.heap.size) (World.cell?_alloc_new _ _ _ _) (by simp)
    rw [World.size_alloc] at this
    exact this
  rw [wsc_eq]
  have hUL : ((-1) :: subs P).length ≤ 4398046511105 := by have := subs_le P; have := hz.nl; simp only [List.length_cons]; omega
  obtain ⟨b0, b1, b2, blt, -⟩ := hpb.up hBb
  obtain ⟨na, nc, rfl, -⟩ := hp.ns
  obtain ⟨fa, fc, rfl, -⟩ := hp.fs
  unfold pV
  clear hp hz hBa hBb hrow hpb
  generalize hSU : (-1) :: subs P = U at *
  go_enter Tryz.func15, Tryz.ntmps15
  go_wp2_with (first
    | (go_at_call 18; refine CC.mono ?_; rintro e w3 ⟨ua, uc, rfl, hu, h3⟩; obtain ⟨va, vc, w5, r1, HF⟩ := HJ.out w3 ua uc hu h3; clear hu h3 CC HJ)
    | (at_builtin; refine Lib.wpList_append_run _ rfl _ _ _ _ rfl _ _ rfl rfl _ _ r1 ?_; clear r1))
  go_loopw [16] (fun v16 wr => ∃ j : Nat, v16 = .int .i64 (j : Int) ∧ j ≤ U.length ∧ Hid (Below w5.heap.size w5 wr ∧ ∀ (i : Nat) (hi : i < j) (hl : i < U.length), nst1 P U[i] = false)) (fun v16 _ => U.length - (intOf v16).toNat)
  case atStart => exact ⟨0, rfl, Nat.zero_le _, Below.refl _ _, fun i hi => by omega⟩
  case round =>
    obtain ⟨j, rfl, hj, HB⟩ := hrel
    by_cases hjl : j < U.length
    · have hjl' : (j : Int) < (U.length : Int) := by omega
      have hj0 : (0 : Int) ≤ (j : Int) := by omega
      have HP : Hid (Pb wr w.heap.size (.slice na P.nodes.length nc) (.slice fa P.flows.length fc) P) := HF.out.2.1.up HB.out.1
      obtain ⟨ia, ic, ie, hic⟩ := HF.out.1.up HB.out.1
      cases ie
      rcases hic with hic | ⟨ib, io, rfl, hil, hic⟩
      · rw [hic] at hjl; cases hjl
      have m0 := hic j hjl
      have hc1 := HP.out.c1
      have hplt := HP.out.lt
      have CQ := HQ.out wr U[j] HP.out
      have HN : Hid (nst1 P U[j] = ((plc (bgn U[j]) P.nodes).length != 1)) := by show _ = _; rfl
      have HBW : Hid (Below w.heap.size w wr) := bel_of HF.out.2.2 HB.out.1 (Nat.le_refl _)
      clear hic b0 b1 b2 blt
      by_cases hx : nst1 P U[j] = true
      · have HE : Hid (U.find? (nst1 P) = some U[j]) := find_at hjl hx (fun i hi => HB.out.2 i hi (by omega))
        have hL : (plc (bgn U[j]) P.nodes).length ≠ 1 := by have := HN.out.symm.trans hx; simpa using this
        clear hx HN HB HQ
        generalize (plc (bgn U[j]) P.nodes).length = L at *
        generalize U[j] = s at *
        have hL' : ¬ ((L : Int) = 1) := by omega
        have hL2 : ((L : Int) == 1) = false := by rw [beq_eq_false_iff_ne]; exact hL'
        go_wp2_with (go_at_call 18; refine CQ.mono ?_; rintro e w6 ⟨⟨qa, qc, rfl⟩, hb6⟩; (have m6 := (hb6.cell (p := ⟨wr.heap.size, 0, none⟩) (Nat.lt_succ_self _)).trans (World.cell?_alloc_new _ _ _ _)); (have B6 : Hid (Below w.heap.size w w6) := bel_of (HBW.out.alloc HBW.out.size _) hb6 (by simp)); clear hb6 CQ)
        go_ret2
        rw [HE.out]
        exact ⟨rfl, B6.out⟩
      · have hx' : nst1 P U[j] = false := by simpa using hx
        have HP' : Hid (∀ (i : Nat) (hi : i < j + 1) (hl : i < U.length), nst1 P U[i] = false) := fun i hi hl => by
          by_cases e : i = j
          · subst e; exact hx'
          · exact HB.out.2 i (by omega) hl
        have hL : (plc (bgn U[j]) P.nodes).length = 1 := by have := HN.out.symm.trans hx'; simpa using this
        have HB0 : Hid (Below w5.heap.size w5 wr) := HB.out.1
        rw [hL] at CQ
        clear hx hx' HN HB HQ hL
        generalize U[j] = s at m0 CQ
        go_wp2_with (go_at_call 18; refine CQ.mono ?_; rintro e w6 ⟨⟨qa, qc, rfl⟩, hb6⟩; (have B6 : Hid (Below w5.heap.size w5 w6) := bel_of (HB0.out.alloc HB0.out.size _) hb6 (by simp)); clear hb6 CQ)
        go_roundw
        case rel => exact ⟨j + 1, by simp, by omega, B6.out, HP'.out⟩
        case measure => simp [intOf]; omega
    · have hjl' : ¬ (j : Int) < (U.length : Int) := by omega
      have HE : Hid (U.find? (nst1 P) = none) := find_no fun i hi => HB.out.2 i (by omega) hi
      have B6 : Hid (Below w.heap.size w wr) := bel_of HF.out.2.2 HB.out.1 (Nat.le_refl _)
      clear HB HQ HF
      go_wp2
      go_ret2
      rw [HE.out]
      exact ⟨rfl, B6.out⟩
end Go.Proofs.YtlmdoiagjepmbaaGreatDoor.m11

/-
  For every input: whatever power there was, and whatever of what was not synced a crash keeps: behind it there are all records that were sure, and whole batches behind them, in their order. (What the program's own variables hold at the start is as the program's text lays it.)
-/
import Derived.Test.YteifkkceldlfnaaGreatDoorG6Sur3
import Derived.Test.YteifkkceldlfnaaGreatDoorG6Ev
import Derived.Test.YteifkkceldlfnaaGreatDoorGDisk
import Derived.Deep.RegionLaw
import Derived.Maps.OwnIn
import Derived.Lib.SmallJoins
namespace Go.Proofs.YteifkkceldlfnaaGreatDoor.seglogSure
open Go.RowKit Go.Shelf Go.Sort Go.Proofs.YteifkkceldlfnaaGreatDoor
open Go.Lib hiding intOf
attribute [local go_sem] Oper.semAt_some

def logName : ByteArray := ⟨#[108, 111, 103]⟩
theorem logName_ok : isP logName = true := by decide +kernel
/-- an append whose run is known, at a step of a region that draws its order -/
theorem step_append_runG {w : World} {ops : Array Oper} {o : Oper} {a : Act} {K : Act → World → Prop} {Q : Exit → Act → World → Prop} {E : Prop} (hgd : o.guard = none) (s x : Operand) (t u : TypeId)
    (ho : o.op = .call { callee := .builtin .append, args := #[s, x], argTypes := #[t, u] }) (v y v' : Value) (w' : World) (hs : a.eval s = v) (hx : a.eval x = y)
    (hr : (Builtin.append_ #[t, u] o.type #[v, y]).run Tryz.prog w = .ok v' w') (h : K (a.put o.dst v') w') :
    if Region.wanted o (yielded ops a.tmps) = true then Oper.wp Tryz.prog o a w K Q else E := by
  have hw : Region.wanted o (yielded ops a.tmps) = true := by simp [Region.wanted, hgd]
  rw [if_pos hw]
  unfold Oper.wp execOp
  simp only [ho, resolve, invoke, builtin, Sem.run_bind, Sem.run_pure, Result.andThen_ok, List.map_toArray, List.map_cons, List.map_nil, hs, hx, hr]
  exact h
theorem own_int (W : World) (B : Nat) (hB : B ≤ W.heap.size) (n : Int) : (W.alloc (.cells #[.int .i64 n] 3)).ownsRow B 3 1 (.slice (some ⟨W.heap.size, 0, none⟩) 1 1) 1 [.int .i64 n] := ⟨by simp, .inr ⟨W.heap.size, 1, #[.int .i64 n], rfl, hB, heap_alloc_new W _, Nat.le_refl _, by unfold maxLen; omega, by simp, by simp⟩⟩
theorem from0 {lg2 : Lg} (hf : gFirst lg2 = 1) {j : Nat} {x : Nat × List UInt8} (hx : (gFrom lg2 0)[j]? = some x) : ∃ r, x = (j + 1, r) ∧ (recsOf lg2.segs)[j]? = some r := by
  unfold gFrom at hx
  rw [hf, ent_get, List.getElem?_drop] at hx
  obtain ⟨r, hr, rfl⟩ := Option.map_eq_some_iff.1 hx
  refine ⟨r, ?_, ?_⟩
  · show (max 0 1 + j, r) = _
    rw [show max 0 1 + j = j + 1 by omega]
  · rwa [show 0 - 1 + j = j by omega] at hr
theorem from0_len {lg2 : Lg} (hf : gFirst lg2 = 1) : (gFrom lg2 0).length = (recsOf lg2.segs).length := by
  unfold gFrom
  rw [ent_length, List.length_drop, hf]
  omega
theorem row_int {W : World} {B : Nat} {ends : List Nat} {v : Value} (h : W.ownsRow B 3 1 v ends.length (endC ends)) {i : Nat} (hi : i < ends.length) : ∃ g c, v = .slice (some ⟨g, 0, none⟩) ends.length c ∧ W.cell? ⟨g, i, none⟩ = some (.int .i64 (ends[i] : Int)) := by
  rcases h.2 with ⟨e, h0⟩ | ⟨g, cap', cur, e, -⟩
  · omega
  · refine ⟨g, cap', e, ?_⟩
    rw [e] at h
    refine row_cell h ?_
    unfold endC
    rw [List.getElem?_map, List.getElem?_eq_getElem hi]
    rfl
theorem pre_get {α : Type} {l m : List α} (h : l <+: m) {j : Nat} {x : α} (hx : l[j]? = some x) : m[j]? = some x := by
  obtain ⟨t, rfl⟩ := h
  rw [List.getElem?_append_left (List.getElem?_eq_some_iff.1 hx).1]
  exact hx
/-- is one of the first numbers this one? -/
def hitB (ends : List Nat) (ct i : Nat) : Bool := (ends.take i).any (fun m => m == ct)
theorem hit_next {ends : List Nat} {ct i : Nat} (h : i < ends.length) : hitB ends ct (i + 1) = (hitB ends ct i || ends[i] == ct) := by
  unfold hitB
  rw [List.take_succ_eq_append_getElem h, List.any_append]
  simp
theorem hit_all {ends : List Nat} {ct i : Nat} (h : ∃ m ∈ ends, m = ct) (hi : ends.length ≤ i) : hitB ends ct i = true := by
  obtain ⟨m, h1, h2⟩ := h
  unfold hitB
  rw [List.take_of_length_le hi, List.any_eq_true]
  exact ⟨m, h1, by rw [h2]; simp⟩
theorem infoInt6 : (Tryz.prog.info? 3).map (fun i => (i.zero, i.size, i.bytes)) = some (some (.int .i64 0), 1, 8) := by kernel_rfl
/-- what the loop has: the log, what was gathered, and what is known of both -/
structure Sj (W0 wr : World) (N lb d : Nat) (lg : Lg) (st : Ab) (acc all : List (List UInt8)) (v ev : Value) (ends : List Nat) : Prop where
  rz : Rz W0 wr N lb d lg st all v ev ends
  pn : Pn lg acc
  pre : acc <+: all
  bg : Bg lg st.1 ends
  nm : lg.pre = logName ∧ lg.sz = 100
  al : all.length ≤ acc.length + 256
  el : ends.length ≤ acc.length + 2
theorem Sj.len {W0 wr : World} {N lb d : Nat} {lg : Lg} {st : Ab} {acc all : List (List UInt8)} {v ev : Value} {ends : List Nat} (h : Sj W0 wr N lb d lg st acc all v ev ends) : acc.length ≤ 1099511627777 := by
  have h1 := h.rz.ls.ok.next.2
  have h2 := h.pn.n
  omega

set_option maxRecDepth 100000 in
set_option maxHeartbeats 16000000 in
theorem walk (a : Option Addr) (c : Nat) (n0 : Nat) (flush power : Int) (ka : Option Addr) (ks : List Int) (kc : Nat) (hpw : power ≤ 9223372036854775807) (w : World) (hv : Gv w.heap.size w) (hev : Ev w.heap.size w) (hb : ∀ i, i < n0 → ∃ l b o ua uc, BatW w a i l b o ua uc) (hk : Ks w ka ks) (hkb : ks ≠ [] → ∀ x, ka = some x → x.block < w.heap.size) (hlen : n0 ≤ 9223372036854775807) :
    Calls Tryz.prog 5 #[.agg #[.slice a n0 c, .int .i64 flush, .int .i64 power, .slice ka ks.length kc]] w fun r w' => r = .returned (.bool true) ∧ Below w.heap.size w w' := by
  obtain ⟨W0, hW0⟩ : ∃ W0, (w.alloc (.cells #[.slice a n0 c, .int .i64 flush, .int .i64 power, .slice ka ks.length kc] 60)).alloc (.cells #[.bool false] 4) = W0 := ⟨_, rfl⟩
  have hs0 : W0.heap.size = w.heap.size + 1 + 1 := by rw [← hW0]; simp
  have hB0 : Below w.heap.size w W0 := by rw [← hW0]; exact ((Below.refl _ w).alloc (Nat.le_refl _) _).alloc (by simp) _
  have br : Bx W0 (w.heap.size + 1) (.bool false) 4 := by
    rw [← hW0]
    have := Bx.new (w.alloc (.cells #[.slice a n0 c, .int .i64 flush, .int .i64 power, .slice ka ks.length kc] 60)) (.bool false) 4
    rwa [World.size_alloc] at this
  have hv0 : Gv W0.heap.size W0 := (hv.below hB0).up (by omega)
  have hev0 : Ev W0.heap.size W0 := (hev.below hB0).up (by omega)
  have hS := shown6_any W0 hv0
  have HBK : Hid (∀ W, Below W0.heap.size W0 W → Bx W (w.heap.size + 1) (.bool false) 4 ∧ Below w.heap.size w W) := fun W hb => ⟨br.below hb br.lt, hB0.trans (hb.mono hB0.size)⟩
  have HV : Hid (Gv W0.heap.size W0 ∧ Ev W0.heap.size W0) := ⟨hv0, hev0⟩
  have HBT : Hid (∀ i, i < n0 → ∃ l b o ua uc, BatW W0 a i l b o ua uc) := fun i hl => by
    obtain ⟨l, b, o, ua, uc, x⟩ := hb i hl
    exact ⟨l, b, o, ua, uc, x.at', by have := x.lt; omega, (hB0.cell (p := ⟨b, o + i, none⟩) x.lt).trans x.cell, x.strs.below hB0 (Nat.le_refl _), x.len, x.nil⟩
  have HKS : Hid (Ks W0 ka ks ∧ (ks ≠ [] → ∀ x, ka = some x → x.block < W0.heap.size)) := ⟨fun j hj => by
    obtain ⟨b, o, e1, e2⟩ := hk j hj
    exact ⟨b, o, e1, (hB0.cell (p := ⟨b, o + j, none⟩) (hkb (fun e => by rw [e] at hj; cases hj) ⟨b, o, none⟩ e1)).trans e2⟩, fun h x e => by have := hkb h x e; omega⟩
  have HWE : Hid (_ = W0) := hW0
  have hq := logEql
  have hsw := hB0.size
  clear hv hev hb hk hkb br hv0 hev0 hB0 hW0
  obtain ⟨pw, hpe⟩ : ∃ pw : Int, (if power < 0 then 0 else power) = pw := ⟨_, rfl⟩
  have hpb : pw ≤ 9223372036854775807 := by rw [← hpe]; split <;> omega
  obtain ⟨stp, hstp⟩ : ∃ stp, aPow ([], -1, false) pw = stp := ⟨_, rfl⟩
  have hst1 : stp.1 = [] := by rw [← hstp]; rfl
  have HPS : Hid (∀ W lb d (X : Nat → Prop), Ls X W W0.heap.size lb d (lg0 logName 100) ([], -1, false) → Calls Tryz.prog 22 #[.pointer (some ⟨d, 0, none⟩), .int .i64 pw] W fun e w' => (∃ v, e = .returned v) ∧ Lft X W W0.heap.size lb d (lg0 logName 100) stp w') := fun W lb d X h => hstp ▸ h.power pw hpb
  have hcs : (power < 0 ∧ pw = 0) ∨ (¬ power < 0 ∧ power = pw) := by
    rw [← hpe]
    split
    · exact .inl ⟨by assumption, rfl⟩
    · exact .inr ⟨by assumption, rfl⟩
  clear hpe hstp
  refine (callsIn_wide (n := 9)).1 ?_
  refine callsIn_of_wp_marks Tryz.func5 rfl trivial ?_ rfl
  simp only [Tryz.ntmps5, List.size_toArray, List.length_cons, List.length_nil, Nat.reduceAdd, Nat.reduceSub, Array.replicate_succ, Array.replicate_zero, List.push_toArray, List.append_toArray, List.nil_append, List.cons_append]
  rcases hcs with ⟨hp1, rfl⟩ | ⟨hp1, rfl⟩
  all_goals
    gi_wp2_with (first
      | (refine ⟨trivial, ?_⟩; gi_at_call 6; rw [HWE.out]; refine (callsIn_wide.2 hS).mono ?_; rintro e w1 ⟨rfl, B1⟩; have HB : Hid (Below W0.heap.size W0 w1) := B1; have hN := sNew W0.heap.size w1 B1.size; clear B1 hS)
      | (refine ⟨trivial, ?_⟩; gi_at_call 7; refine (callsIn_wide.2 hN).mono ?_; rintro e w2 ⟨rfl, S2, B2⟩; have HB2 : Hid (Below W0.heap.size W0 w2) := HB.out.trans (B2.mono HB.out.size); have hO := Open0 S2 logName_ok (sz := 100) (by decide) (by decide); clear S2 B2 hN)
      | (refine ⟨trivial, ?_⟩; gi_at_call 9; refine (callsIn_wide.2 hO).mono ?_; rintro e w3 ⟨lb, rfl, L3, B3⟩; (have HB3 : Hid (Below W0.heap.size W0 w3) := HB2.out.trans (B3.mono HB2.out.size)); have hP := HPS.out _ _ _ _ L3; clear B3 L3 hO)
      | (refine ⟨trivial, ?_⟩; gi_at_call 22; refine (callsIn_wide.2 hP).mono ?_; rintro e w4 ⟨⟨pv, rfl⟩, L4⟩; (have HL4 : Hid (Lft (fun x => W0.heap.size ≤ x) w3 W0.heap.size lb w1.heap.size (lg0 logName 100) stp w4) := L4); clear L4 hP))
    obtain ⟨d, hd⟩ : ∃ d, w1.heap.size = d := ⟨_, rfl⟩
    rw [hd] at HL4 ⊢
    have HR0 : Hid (Sj W0 ((w4.alloc (.cells #[.slice none 0 0] 35)).alloc (.cells #[.int .i64 0] 3)) w4.heap.size lb d (lg0 logName 100) stp [] [] (.slice none 0 0) (.slice (some ⟨w4.heap.size + 1, 0, none⟩) 1 1) [0]) := by
      obtain ⟨L, c⟩ := HL4.out
      have hb4 : Below W0.heap.size W0 w4 := HB3.out.trans (c.below HB3.out.size (fun k hk e => by omega))
      have hb : Below w4.heap.size w4 ((w4.alloc (.cells #[.slice none 0 0] 35)).alloc (.cells #[.int .i64 0] 3)) := ((Below.refl _ w4).alloc (Nat.le_refl _) _).alloc (by simp) _
      have ho := own_int (w4.alloc (.cells #[.slice none 0 0] 35)) W0.heap.size (by rw [World.size_alloc]; have := hb4.size; omega) 0
      rw [World.size_alloc] at ho
      refine ⟨⟨(Bx.new w4 _ _).alloc _, World.ownsRow_nil _ _ _ _, ho, (L.tight.below hb).mono (fun x hx => ⟨?_, by have := hx.2; omega, fun e => (by cases e), fun e => (by cases e; have h9 : w4.heap.size + 1 < w4.heap.size := hx.2; omega)⟩), hb4.trans (hb.mono hb4.size), hb4.size⟩, lg0_pn _ _, List.nil_prefix, .inl ⟨rfl, hst1, rfl, rfl, by simp⟩, ⟨rfl, rfl⟩, by simp, by simp⟩
      rcases hx.1 with h | h
      · exact h
      · have := HB3.out.size; omega
    rename_i Q' K hK
    have HT : Hid (∀ {y0 y1 y3 y4 y5 y7 y9 y10 y14 y15 y16 y17 y18 y19 y20 y21 y22 y23 y24 y25 y26 y27 y28 y29 y30 y31 y32 y33 y34 y35 y36 y37 y38 y39 y40 y41 y42 y43 y44 y45 y46 y47 y48 y49 y50 y51 y52 y53 y54 y55 y56 y57 y58 y59 y60 y61 y62 y63 y64 y65 y66 y67 y68 y69 y70 y71 y72 y73 y74 y75 y76 y77 y78 y79 y80 y81 y82 y83 y84 y85 y86 y87 y88 y89 y90 y91 y92 y93 y94 y95 y96 y97 y98 y99 y100 y101 y102 y103 y104 y105 y106 y107 y108 y109 y110 y111 y112 y113 y114 y115 y116 y117 y118 y119 y120 y121 y122 y123 y124 y125 y126 y127 y128 y129 y130 y131 y132 y133 y134 y135 y136 y137 y138 y139 y140 y141 y142 y143 y144 y145 y146 y147 y148 y149 y150 y151 y152 y153 y154 y155 y156 y157 y158 y159 y160 y161 : Value} {ve : Value} {sure : Nat} {wr : World} {lg : Lg} {st : Ab} {acc all : List (List UInt8)} {v : Value} {ends : List Nat}, Sj W0 wr w4.heap.size lb d lg st acc all v ve ends → lg.sure = sure → K { tmps := #[y0, y1, .pointer (some ⟨w.heap.size + 1, 0, none⟩), y3, y4, y5, .slice ka ks.length kc, y7, .pointer (some ⟨d, 0, none⟩), y9, y10, .pointer (some ⟨w4.heap.size, 0, none⟩), ve, .int .u64 (sure : Int), y14, y15, y16, y17, y18, y19, y20, y21, y22, y23, y24, y25, y26, y27, y28, y29, y30, y31, y32, y33, y34, y35, y36, y37, y38, y39, y40, y41, y42, y43, y44, y45, y46, y47, y48, y49, y50, y51, y52, y53, y54, y55, y56, y57, y58, y59, y60, y61, y62, y63, y64, y65, y66, y67, y68, y69, y70, y71, y72, y73, y74, y75, y76, y77, y78, y79, y80, y81, y82, y83, y84, y85, y86, y87, y88, y89, y90, y91, y92, y93, y94, y95, y96, y97, y98, y99, y100, y101, y102, y103, y104, y105, y106, y107, y108, y109, y110, y111, y112, y113, y114, y115, y116, y117, y118, y119, y120, y121, y122, y123, y124, y125, y126, y127, y128, y129, y130, y131, y132, y133, y134, y135, y136, y137, y138, y139, y140, y141, y142, y143, y144, y145, y146, y147, y148, y149, y150, y151, y152, y153, y154, y155, y156, y157, y158, y159, y160, y161], defers := [] } wr) := by
      intro y0 y1 y3 y4 y5 y7 y9 y10 y14 y15 y16 y17 y18 y19 y20 y21 y22 y23 y24 y25 y26 y27 y28 y29 y30 y31 y32 y33 y34 y35 y36 y37 y38 y39 y40 y41 y42 y43 y44 y45 y46 y47 y48 y49 y50 y51 y52 y53 y54 y55 y56 y57 y58 y59 y60 y61 y62 y63 y64 y65 y66 y67 y68 y69 y70 y71 y72 y73 y74 y75 y76 y77 y78 y79 y80 y81 y82 y83 y84 y85 y86 y87 y88 y89 y90 y91 y92 y93 y94 y95 y96 y97 y98 y99 y100 y101 y102 y103 y104 y105 y106 y107 y108 y109 y110 y111 y112 y113 y114 y115 y116 y117 y118 y119 y120 y121 y122 y123 y124 y125 y126 y127 y128 y129 y130 y131 y132 y133 y134 y135 y136 y137 y138 y139 y140 y141 y142 y143 y144 y145 y146 y147 y148 y149 y150 y151 y152 y153 y154 y155 y156 y157 y158 y159 y160 y161 ve sure wr lg st acc all v ends hJ hsu
      refine hK _ _ ?_
      clear hK HR0 HL4 HBT HPS
      obtain ⟨va, vc, rfl, -⟩ := row_slice hJ.rz.row
      obtain ⟨ea, ec, rfl, -⟩ := row_slice hJ.rz.er
      have cC := hJ.rz.crash (kc := kc) HKS.out.1 HKS.out.2
      have hal := hJ.al
      have hacl := hJ.len
      have hel := hJ.el
      have hpl := hJ.pre.length_le
      have HPR : Hid (acc <+: all) := hJ.pre
      have HO : Hid (∀ W es mo, fil es = crAll ks st.1 → Ry W0 W w4.heap.size d es mo all (.slice va all.length vc) (.slice ea ends.length ec) ends → Calls Tryz.prog 9 #[.pointer (some ⟨d, 0, none⟩), .string ⟨#[108, 111, 103]⟩, .int .i64 100] W fun e w' => ∃ lb2 lg2 st2, e = .returned (.tuple #[.pointer (some ⟨lb2, 0, none⟩), .int .i64 0]) ∧ Rz W0 w' w4.heap.size lb2 d lg2 st2 all (.slice va all.length vc) (.slice ea ends.length ec) ends ∧ Beh lg lg2 acc ends) := fun W es mo hf h => by
        have := h.open hf hJ.bg hJ.rz.ls.ok hJ.pn (by rw [hJ.nm.1]; exact logName_ok) HV.out.1 HV.out.2
        rw [hJ.nm.1, hJ.nm.2] at this
        exact this
      obtain ⟨M, hM⟩ : ∃ M, all.length = M := ⟨_, rfl⟩
      obtain ⟨E, hE⟩ : ∃ E, ends.length = E := ⟨_, rfl⟩
      have HM2 : Hid (all.length = M) := hM
      have HE2 : Hid (ends.length = E) := hE
      have HSU : Hid (lg.sure = sure) := hsu
      rw [hM, hE] at HO cC
      rw [hM] at hal hpl
      rw [hE] at hel ⊢
      clear hJ hM hE hsu
      gi_wp2_with (first
        | (refine ⟨trivial, ?_⟩; gi_at_call 11; refine (callsIn_wide.2 cC).mono ?_; rintro e w8 ⟨⟨xv, rfl⟩, es, mo, hf, Y8⟩; have cO := HO.out _ _ _ hf Y8; clear hf Y8 cC)
        | (refine ⟨trivial, ?_⟩; gi_at_call 9; refine (callsIn_wide.2 cO).mono ?_; rintro e w9 ⟨lb2, lg2, st2, rfl, R9, hBe⟩; (have HR9 : Hid (Rz W0 w9 w4.heap.size lb2 d lg2 st2 all (.slice va M vc) (.slice ea E ec) ends) := R9); (have HBe : Hid (Beh lg lg2 acc ends) := hBe); clear R9 hBe cO))
      have c9 := HR9.out.bx.cell
      obtain ⟨nx, hnx⟩ : ∃ nx, lg2.next = nx := ⟨_, rfl⟩
      have HNX : Hid (lg2.next = nx) := hnx
      have CF1 : ∀ q, Calls Tryz.prog 15 #[.pointer (some ⟨lb2, 0, none⟩)] (w9.drewN q) fun e w' => e = .returned (.int .u64 1) ∧ w' = w9.drewN q := fun q => by
        have := gFirst_any (HR9.out.below (below_drewN (Below.refl _ w9) q)).ls
        rw [HBe.out.first] at this
        exact this
      have CF2 : ∀ q, Calls Tryz.prog 17 #[.pointer (some ⟨lb2, 0, none⟩)] (w9.drewN q) fun e w' => e = .returned (.int .u64 (nx : Int)) ∧ w' = w9.drewN q := fun q => by
        have := gNext_any (HR9.out.below (below_drewN (Below.refl _ w9) q)).ls
        rw [hnx] at this
        exact this
      have hn1 : sure ≤ nx := by have := HBe.out.sure; rw [HSU.out, hnx] at this; exact this
      have hn2 : nx ≤ M + 1 := by
        have h1 := HBe.out.next
        have h2 := HBe.out.recs.length_le
        omega
      have e1 : ¬ (nx : Int) < (sure : Int) := by omega
      have e2 : ¬ (M : Int) + 1 < (nx : Int) := by omega
      have hw64 : IntKind.u64.wrap (M : Int) = (M : Int) := by rw [IntKind.wrap_u64]; omega
      have hw65 : IntKind.u64.wrap ((M : Int) + 1) = (M : Int) + 1 := by rw [IntKind.wrap_u64]; omega
      have HQ : Hid (∀ q, Rz W0 (w9.drewN q) w4.heap.size lb2 d lg2 st2 all (.slice va M vc) (.slice ea E ec) ends) := fun q => HR9.out.below (below_drewN (Below.refl _ w9) q)
      clear hnx
      refine wpIn_wide.2 (Code.wp_mono NoPanic.imp ?_)
      go_quiet (first
        | (go_at_call 15; refine Calls.quiet_of_same (CF1 _))
        | (go_at_call 17; refine Calls.quiet_of_same (CF2 _)))
      refine NoPanic.normal ?_
      have RU := HQ.out nq
      obtain ⟨u9, hu9⟩ : ∃ u, w9.drewN nq = u := ⟨_, rfl⟩
      rw [hu9] at RU ⊢
      have HRU : Hid (Rz W0 u9 w4.heap.size lb2 d lg2 st2 all (.slice va M vc) (.slice ea E ec) ends) := RU
      clear RU hu9 HQ CF1 CF2 c9 e1 e2 hw64 hw65 HR9
      obtain ⟨W8, hW8⟩ : ∃ W8, u9.alloc (.cells #[.int .i64 0] 3) = W8 := ⟨_, rfl⟩
      have HW8E : Hid (u9.alloc (.cells #[.int .i64 0] 3) = W8) := hW8
      have hB8 : Below u9.heap.size u9 W8 := by rw [← hW8]; exact (Below.refl _ u9).alloc (Nat.le_refl _) _
      have hs8 : W8.heap.size = u9.heap.size + 1 := by rw [← hW8]; simp
      have b8 : Bx W8 u9.heap.size (.int .i64 0) 3 := by rw [← hW8]; exact Bx.new u9 _ _
      obtain ⟨vs, sl, f2, cF⟩ : ∃ vs sl, (∀ x, lfoot lb2 sl vs x → x < u9.heap.size ∧ W0.heap.size ≤ x) ∧ Calls Tryz.prog 26 #[.pointer (some ⟨lb2, 0, none⟩), .int .u64 0] W8 fun e w' => ∃ f, e = .returned f ∧ SqR (fun x => #[encE1 x, encE2 x]) w' f (gFrom lg2 0) (Xf W8.heap.size (W8.heap.size + 1) lb2 sl vs) ∧ Below W8.heap.size W8 w' ∧ w'.heap.size = W8.heap.size + 2 := by
        obtain ⟨es, mo, vs, sl, -, -, Lw, ok, -, f2⟩ := HRU.out.ls.tight
        exact ⟨vs, sl, fun x hx => ⟨(f2 x hx).2, (f2 x hx).1.1⟩, From_any ((⟨Lw, ok⟩ : Lq u9 W0.heap.size lb2 d lg2 vs sl).below hB8)⟩
      clear hW8
      gi_wp2_with (refine ⟨trivial, ?_⟩; gi_at_call 26; rw [HW8E.out]; refine (callsIn_wide.2 cF).mono ?_; rintro e w10 ⟨f, rfl, hS10, hB10, hz10⟩)
      have b10 := b8.below hB10 b8.lt
      have hn10 : u9.heap.size < w10.heap.size := by have := hB10.size; omega
      have HXX : Hid (∀ y, Xf W8.heap.size (W8.heap.size + 1) lb2 sl vs y → y ≠ u9.heap.size) := by
        rintro y (rfl | rfl | hy)
        · omega
        · omega
        · have := (f2 y hy).1; omega
      have hB910 : Below u9.heap.size u9 w10 := bel_of hB8 hB10 (Nat.le_refl _)
      have hN9 := HRU.out.bx.lt
      have hw9 := HRU.out.bw.size
      have HW : Hid (∀ W, Ch (fun y => y = u9.heap.size ∨ w10.heap.size ≤ y) w10 W → Bx W (w.heap.size + 1) (.bool false) 4 ∧ Below w.heap.size w W ∧ Bx W w4.heap.size (.slice va M vc) 35 ∧ (∀ i (h : i < all.length), ∃ g, va = some ⟨g, 0, none⟩ ∧ W.cell? ⟨g, i, none⟩ = some (.string (S all[i]))) ∧ ∀ i (h : i < ends.length), ∃ g, ea = some ⟨g, 0, none⟩ ∧ W.cell? ⟨g, i, none⟩ = some (.int .i64 (ends[i] : Int))) := fun W hc => by
        have R10 := HRU.out.below hB910
        obtain ⟨y2, y3⟩ := HBK.out w10 R10.bw
        refine ⟨y2.ch hc (fun e => by omega), y3.trans (hc.below y3.size (fun y hy e => by omega)), R10.bx.ch hc (fun e => by omega), fun i h => ?_, fun i h => ?_⟩
        · have r := hc.row R10.row (fun y hy e => by have := HRU.out.lt (.inl hy); omega)
          obtain ⟨g, c', e, hcl⟩ := row_str r h
          cases e
          exact ⟨g, rfl, hcl⟩
        · have r := hc.row R10.er (fun y hy e => by have := HRU.out.lt (.inr hy); omega)
          obtain ⟨g, c', e, hcl⟩ := row_int r h
          cases e
          exact ⟨g, rfl, hcl⟩
      obtain ⟨ct, hct⟩ : ∃ ct, (recsOf lg2.segs).length = ct := ⟨_, rfl⟩
      have HRA : Hid (recsOf lg2.segs <+: all) := HBe.out.recs.trans HPR.out
      have HLN : Hid ((gFrom lg2 0).length = ct) := by show _ = _; rw [from0_len HBe.out.first, hct]
      have hcM : ct ≤ M := by have := HRA.out.length_le; rw [hct, HM2.out] at this; exact this
      have HWH : Hid (∃ m ∈ ends, m = ct) := by
        obtain ⟨m, h1, h2⟩ := HBe.out.whole
        exact ⟨m, h1, by have := HBe.out.next; omega⟩
      have HFI : Hid (gFirst lg2 = 1) := HBe.out.first
      have hw10 : w.heap.size ≤ w10.heap.size := by omega
      clear hB8 hB10 hB910 b8 f2 cF hs8 hz10 HRU HW8E hct HBe HNX hn1 hn2 HPR HSU HO
      refine range_sqR2 (s1 := 20) (s2 := 21) (e1 := encE1) (e2 := encE2) rfl hS10 (fun R pre W => Ct w10 u9.heap.size R pre.length W) ?hI ?start ?assign ?body ?done
      case hI => exact fun R R' pre W W' h hs hr => h.sr hn10 hs hr
      case start => exact fun W0 hB h0 => ⟨b10.below hB b10.lt, fun y hy => by omega, Ch.of_below hB⟩
      case assign =>
        intro mm l' x W K hK
        gi_wp2
        exact hK
      case body =>
        rintro mm l' R pre x W hC hnx
        obtain ⟨hx, hpl⟩ := get_pre hnx
        obtain ⟨r, rfl, hr⟩ := from0 HFI.out hx
        rw [HLN.out] at hpl
        obtain ⟨hjl, hje⟩ := List.getElem?_eq_some_iff.1 (pre_get HRA.out hr)
        obtain ⟨y2, y3, y4, y5, -⟩ := HW.out W hC.ch
        obtain ⟨g, rfl, hcl⟩ := y5 pre.length hjl
        rw [hje] at hcl
        have cN := y4.cell
        have cn := hC.bx.cell
        have fn := hC.bx.fro
        have HST : Hid _ := hC.step hn10 HXX.out (.int .i64 ((pre.length : Int) + 1)) (by simp)
        obtain ⟨pn, hpn⟩ : ∃ pn, pre.length = pn := ⟨_, rfl⟩
        have HPN : Hid (pre.length = pn) := hpn
        rw [hpn] at hcl cn hpl HST
        have e4 : (0 : Int) ≤ (pn : Int) := by omega
        have e5 : (pn : Int) < (M : Int) := by omega
        have e6 : pn < M := by omega
        rw [hpn]
        clear hC hx hnx y2 y3 y4 y5 hje hr hjl hpn
        simp only [List.setIfInBounds_toArray, List.set_cons_succ, List.set_cons_zero]
        gi_wp2
        obtain ⟨z1, z2, z3⟩ := HST.out
        exact ⟨z1, z2, by show Ct _ _ _ (pre ++ [(_, r)]).length _; rw [List.length_append, HPN.out]; exact z3⟩
      case done =>
        rintro R W hC hD
        have cn := hC.bx.cell
        rw [HLN.out] at cn
        have hzW := hC.ch.size
        have HWW : Hid (∀ W2, Below W.heap.size W W2 → Ch (fun y => y = u9.heap.size ∨ w10.heap.size ≤ y) w10 W2 ∧ W2.cell? ⟨u9.heap.size, 0, none⟩ = some (.int .i64 (ct : Int)) ∧ W2.heap[w10.heap.size]? = some (.deferred (some []))) := fun W2 hb => by
          have hlt := (Array.getElem?_eq_some_iff.1 hD).1
          exact ⟨hC.ch.joinG (show Ch (fun _ => False) W W2 from Ch.of_below hb) (fun _ _ h => h.elim), (hb.cell (p := ⟨u9.heap.size, 0, none⟩) (by show u9.heap.size < _; omega)).trans cn, (hb.block _ hlt).trans hD⟩
        clear hC cn hD HXX HFI HRA HLN b10
        gi_wp2
        gi_loopw [22, 23] (fun vw vi W2 => ∃ i : Nat, vi = .int .i64 (i : Int) ∧ i ≤ E ∧ vw = .bool (hitB ends ct i) ∧ Hid (Below W.heap.size W W2)) (fun _ vi _ => E - (intOf vi).toNat)
        case atStart => exact ⟨0, rfl, Nat.zero_le _, by unfold hitB; simp, Below.refl _ _⟩
        case round =>
          obtain ⟨i, rfl, hi, rfl, HB⟩ := hrel
          obtain ⟨q1, q2, q3⟩ := HWW.out _ HB.out
          by_cases hiE : i < E
          · have hiE' : (i : Int) < (E : Int) := by omega
            have hi0 : (0 : Int) ≤ (i : Int) := by omega
            have hie : i < ends.length := by rw [HE2.out]; exact hiE
            obtain ⟨-, -, -, -, y6⟩ := HW.out _ q1
            obtain ⟨g, rfl, hcl⟩ := y6 i hie
            have HNE : Hid _ := hit_next (ct := ct) hie
            generalize ends[i] = mi at *
            cases hd1 : hitB ends ct i with
            | true =>
              have HD2 : Hid (hitB ends ct (i + 1) = true) := by show _ = _; rw [HNE.out, hd1]; rfl
              clear y6 HNE hd1 q1 q3
              gi_wp2
              refine wpIn_wide.2 (Code.wp_mono NoPanic.imp ?_)
              go_quiet (fail)
              refine NoPanic.normal ?_
              gi_wp2
              go_roundw
              case rel => exact ⟨i + 1, by simp, by omega, by rw [HD2.out], below_drewN HB.out _⟩
              case measure => simp [intOf]; omega
            | false =>
              by_cases hm : mi = ct
              · have HD2 : Hid (hitB ends ct (i + 1) = true) := by show _ = _; rw [HNE.out, hd1, hm]; simp
                have hm' : ((mi : Int) == (ct : Int)) = true := by rw [hm]; simp
                clear y6 HNE hd1 q1 q3
                subst hm
                gi_wp2
                refine wpIn_wide.2 (Code.wp_mono NoPanic.imp ?_)
                go_quiet (fail)
                refine NoPanic.normal ?_
                gi_wp2
                go_roundw
                case rel => exact ⟨i + 1, by simp, by omega, by rw [HD2.out], below_drewN HB.out _⟩
                case measure => simp [intOf]; omega
              · have HD2 : Hid (hitB ends ct (i + 1) = false) := by show _ = _; rw [HNE.out, hd1, beq_eq_false_iff_ne.2 hm]; rfl
                have hm' : ((mi : Int) == (ct : Int)) = false := by rw [beq_eq_false_iff_ne]; omega
                clear y6 HNE hd1 q1 q3 hm
                gi_wp2
                refine wpIn_wide.2 (Code.wp_mono NoPanic.imp ?_)
                go_quiet (fail)
                refine NoPanic.normal ?_
                gi_wp2
                go_roundw
                case rel => exact ⟨i + 1, by simp, by omega, by rw [HD2.out], below_drewN HB.out _⟩
                case measure => simp [intOf]; omega
          · have hiE' : ¬ (i : Int) < (E : Int) := by omega
            have hd1 : hitB ends ct i = true := hit_all HWH.out (by rw [HE2.out]; omega)
            rw [hd1]
            obtain ⟨y2, y3, -, -, -⟩ := HW.out _ q1
            have hzr := q1.size
            have cr := y2.cell
            have fr := y2.fro
            have hlt := (Array.getElem?_eq_some_iff.1 q3).1
            have HE : Hid (∀ y : Value, (wr.setCell ⟨w.heap.size + 1, 0, none⟩ y).heap[w10.heap.size]? = some (.deferred (some [])) ∧ Bx ((wr.setCell ⟨w.heap.size + 1, 0, none⟩ y).putObj w10.heap.size (.deferred none)) (w.heap.size + 1) y 4 ∧ Below w.heap.size w ((wr.setCell ⟨w.heap.size + 1, 0, none⟩ y).putObj w10.heap.size (.deferred none))) := fun y => by
              have c : Ch (fun q => q = w.heap.size + 1) wr (wr.setCell ⟨w.heap.size + 1, 0, none⟩ y) := (Ch.refl _ wr).setCell _ _ (fun _ => rfl)
              exact ⟨c.obj q3 (fun e => by omega), (World.putObj_heap_other (by omega)).trans (one0 y2 y), below_take (y3.setCell (by simp) _) (Nat.le_refl _) (by omega) _⟩
            clear y2 y3 q1 q3 hd1
            gi_wp2
            obtain ⟨x1, x2, x3⟩ := HE.out (.bool true)
            have c10 := x2.cell
            refine ⟨by simp, .inl ⟨_, _, rfl, takes x1, ?_⟩⟩
            refine ⟨.bool true, ?res, rfl, x3⟩
            case res => simp [results, Tryz.results5, go_sem, c10]
    gi_loopw [12, 13, 14] (fun ve vs vi wr => ∃ (i sure : Nat) (ends : List Nat), vi = .int .i64 (i : Int) ∧ i ≤ n0 ∧ vs = .int .u64 (sure : Int) ∧ Hid (∃ lg st all v, Sj W0 wr w4.heap.size lb d lg st all all v ve ends ∧ lg.sure = sure ∧ ends.length ≤ all.length + 1)) (fun _ _ vi _ => n0 - (intOf vi).toNat)
    case atStart => exact ⟨0, 1, [0], rfl, Nat.zero_le _, rfl, ⟨_, _, _, _, HR0.out, rfl, by simp⟩⟩
    case round =>
      clear hK
      obtain ⟨i, sure, ends, rfl, hi, rfl, hj⟩ := hrel
      obtain ⟨lg, st, all, v, hJ, hsu, hel1⟩ := hj.out
      clear hj HR0 HL4 HPS
      by_cases hl : i < n0
      · have hli : (i : Int) < (n0 : Int) := by omega
        have hi0 : (0 : Int) ≤ (i : Int) := Int.natCast_nonneg _
        obtain ⟨l, b, o, ua, uc, hB⟩ := HBT.out i hl
        have HBt : Hid (BatW W0 a i l b o ua uc) := hB
        obtain rfl := hB.at'
        have HM : Hid (∀ W, Below W0.heap.size W0 W → W.cell? ⟨b, o + i, none⟩ = some (.slice ua l.length uc)) := fun W hb => (hb.cell (p := ⟨b, o + i, none⟩) HBt.out.lt).trans HBt.out.cell
        have m0 := HM.out wr hJ.rz.bw
        obtain ⟨va, vc, rfl, -⟩ := row_slice hJ.rz.row
        have c9 := hJ.rz.bx.cell
        have hacl := hJ.len
        have HJ : Hid (Sj W0 wr w4.heap.size lb d lg st all all (.slice va all.length vc) _ ends) := hJ
        have hll : l.length ≤ 9223372036854775807 := by have := hB.len; omega
        clear hB hJ
        obtain ⟨er, her⟩ : ∃ er, (gAppend lg st l).1.2 = er := ⟨_, rfl⟩
        obtain ⟨po, hpo⟩ : ∃ po, (gAppend lg st l).1.1 = po := ⟨_, rfl⟩
        by_cases he1 : er = 1
        · subst he1
          have HG : Hid (∀ q, _) := fun q => (HJ.out.rz.below (below_drewN (Below.refl _ wr) q)).gatherB (l := l) HBt.out.strs HBt.out.nil hacl HBt.out.len
          have HAP : Hid (∀ W, Ls (fun x => W0.heap.size ≤ x) W W0.heap.size lb d lg st → Below W0.heap.size W0 W → Calls Tryz.prog 24 #[.pointer (some ⟨lb, 0, none⟩), .slice ua l.length uc] W fun e w' => e = .returned (.tuple #[.int .u64 (po : Int), .int .i64 1]) ∧ Below W0.heap.size W0 w') := fun W hLs hbW => by
            have hA := gAppend_any (l := l) hLs (HV.out.1.below hbW) (fun x hx => hx) (HBt.out.strs.below hbW (Nat.le_refl _)) (fun h0 b o m c e hx => by
              obtain ⟨a', c', ee, h1⟩ := HBt.out.strs
              rw [e] at ee
              cases ee
              rcases h1 with h1 | ⟨b', o', e2, hb', _⟩
              · exact absurd h1 h0
              · cases e2
                omega) hll
            rw [her, hpo] at hA
            exact hA.mono fun e w' x => ⟨x.1, hbW.trans (x.2.2.below hbW.size (fun k hk e => by omega))⟩
          clear her hpo
          gi_wp2
          refine wpIn_wide.2 (Code.wp_mono NoPanic.imp ?_)
          go_region_law (obtain ⟨a7, n7, c7, w7, r1, z1, z2, z3, z4⟩ := HG.out 1; have Z3 : Hid _ := z3; have Z4 : Hid _ := z4; clear z3 z4; refine step_append_runG (by rfl) _ _ _ _ (by rfl) _ _ _ _ (by rfl) (by rfl) r1 ?_)
          all_goals refine NoPanic.normal ?_
          all_goals
            have cA := HAP.out _ Z3.out Z4.out
            have m6 := HM.out _ Z4.out
            gi_wp2_with (refine ⟨trivial, ?_⟩; gi_at_call 24; refine (callsIn_wide.2 cA).mono ?_; rintro e w8 ⟨rfl, B8⟩; obtain ⟨y2, y3⟩ := HBK.out w8 B8; have cr := y2.cell; have fr := y2.fro; have HY2 : Hid _ := y2; have HY3 : Hid _ := y3; clear cA y2 y3)
            have c10 : (w8.setCell ⟨w.heap.size + 1, 0, none⟩ (.bool true)).cell? ⟨w.heap.size + 1, 0, none⟩ = some (.bool true) := (one0 HY2.out (.bool true)).cell
            refine ⟨.bool true, ?res, rfl, HY3.out.setCell (by simp) _⟩
            case res => simp [results, Tryz.results5, go_sem, c10]
        · have hsh := gApp_short (lg := lg) (st := st) (l := l) (by rw [her]; exact he1)
          have hl0 : l ≠ [] := fun e => by rw [e] at hsh; simp at hsh
          obtain ⟨b2, o2, rfl, HCB⟩ : ∃ b2 o2, ua = some ⟨b2, o2, none⟩ ∧ Hid (∀ W, Below W0.heap.size W0 W → ∀ j x, (strCs l)[j]? = some x → W.cell? ((⟨b2, o2, none⟩ : Addr).add j) = some x) := by
            obtain ⟨ua', uc', ee, hx⟩ := HBt.out.strs
            cases ee
            obtain ⟨b2, o2, rfl, hlt, hcc⟩ := hx.resolve_left hl0
            refine ⟨b2, o2, rfl, fun W hb j x hj => ?_⟩
            rw [Addr.add_lit]
            obtain ⟨hjl, hje⟩ := List.getElem?_eq_some_iff.1 hj
            rw [strCs_length] at hjl
            refine ((hb.cell (p := ⟨b2, o2 + j, none⟩) hlt).trans (hcc j hjl)).trans ?_
            rw [← hje]
            simp [strCs, List.getD, List.getElem?_eq_getElem hjl]
          obtain ⟨M, hM⟩ : ∃ M, all.length + l.length = M := ⟨_, rfl⟩
          have HG : Hid (∀ q, ∃ a1 c1 w1, (Builtin.append_ #[35, 35] 35 #[.slice va all.length vc, .slice (some ⟨b2, o2, none⟩) l.length uc]).run Tryz.prog (wr.drewN q) = .ok (.slice a1 M c1) w1 ∧ w1.cell? ⟨w4.heap.size, 0, none⟩ = some (.slice va all.length vc) ∧ w1.frozen? ⟨w4.heap.size, 0, none⟩ = false ∧ Rz W0 (w1.setCell ⟨w4.heap.size, 0, none⟩ (.slice a1 M c1)) w4.heap.size lb d lg st (all ++ l) (.slice a1 M c1) u12 ends) := fun q => by
            have := (HJ.out.rz.below (below_drewN (Below.refl _ wr) q)).gather (l := l) (ad := ⟨b2, o2, none⟩) (c := uc) (HCB.out _ (HJ.out.rz.below (below_drewN (Below.refl _ wr) q)).bw) (by omega)
            rw [hM] at this
            exact this
          obtain ⟨lg', hlg'⟩ : ∃ lg', (gAppend lg st l).2.1 = lg' := ⟨_, rfl⟩
          obtain ⟨st', hst'⟩ : ∃ st', (gAppend lg st l).2.2 = st' := ⟨_, rfl⟩
          have HAP : Hid (∀ W v', Rz W0 W w4.heap.size lb d lg st (all ++ l) v' u12 ends → Calls Tryz.prog 24 #[.pointer (some ⟨lb, 0, none⟩), .slice (some ⟨b2, o2, none⟩) l.length uc] W fun e w' => e = .returned (.tuple #[.int .u64 (po : Int), .int .i64 er]) ∧ Rz W0 w' w4.heap.size lb d lg' st' (all ++ l) v' u12 ends) := fun W v' h => by
            have := h.append HV.out.1 HBt.out.strs hll
            rw [her, hpo, hlg', hst'] at this
            exact this
          have HBG : Hid (Bg lg' st'.1 (ends ++ [M])) := by
            have h1 := HJ.out.bg.append HJ.out.rz.ls.ok l
            rw [hlg', hst', HJ.out.pn.n, show all.length + 1 + l.length - 1 = M by omega] at h1
            exact h1
          have HPN : Hid (Pn lg' (if er = 0 then all ++ l else all)) := by
            have h1 := HJ.out.pn.append st l
            rw [hlg', her] at h1
            exact h1
          have HNM : Hid (lg'.pre = logName ∧ lg'.sz = 100) := by
            have h1 := gAppend_name lg st l
            rw [hlg'] at h1
            exact ⟨h1.1.trans HJ.out.nm.1, h1.2.trans HJ.out.nm.2⟩
          obtain ⟨acc, hacc⟩ : ∃ acc, (if er = 0 then all ++ l else all) = acc := ⟨_, rfl⟩
          rw [hacc] at HPN
          have HAC : Hid (acc <+: all ++ l ∧ (all ++ l).length ≤ acc.length + 256 ∧ (ends ++ [M]).length ≤ acc.length + 2) := by
            rw [List.length_append, List.length_append, List.length_singleton]
            rw [← hacc]
            split
            · rw [List.length_append]; exact ⟨List.prefix_refl _, by omega, by omega⟩
            · exact ⟨List.prefix_append _ _, by omega, by omega⟩
          have HS0 : Hid (∀ W v' ev', Rz W0 W w4.heap.size lb d lg' st' (all ++ l) v' ev' (ends ++ [M]) → Sj W0 W w4.heap.size lb d lg' st' acc (all ++ l) v' ev' (ends ++ [M])) := fun W v' ev' h => ⟨h, HPN.out, HAC.out.1, HBG.out, HNM.out, HAC.out.2.1, HAC.out.2.2⟩
          have HS1 : Hid (∀ W v' ev', Rz W0 W w4.heap.size lb d (gFlush lg' st').2.1 (gFlush lg' st').2.2 (all ++ l) v' ev' (ends ++ [M]) → Sj W0 W w4.heap.size lb d (gFlush lg' st').2.1 (gFlush lg' st').2.2 acc (all ++ l) v' ev' (ends ++ [M])) := fun W v' ev' h => ⟨h, gFlush_pn HPN.out, HAC.out.1, HBG.out.flush, ⟨(gFlush_name lg' st').1.trans HNM.out.1, (gFlush_name lg' st').2.trans HNM.out.2⟩, HAC.out.2.1, HAC.out.2.2⟩
          have HEQ : Hid (er = 0 → acc = all ++ l) := fun h => by rw [← hacc, if_pos h]
          have hbn : ends.length + 1 ≤ maxLen ∧ (ends.length + 1) * 8 ≤ 140737488355328 := by unfold maxLen; omega
          obtain ⟨j0, hj0, hy0, hy1, hy2⟩ := info_parts infoInt6
          have HEL : Hid (ends.length ≤ all.length + 1 ∧ 1 ≤ l.length ∧ ends.length + 1 ≤ (all ++ l).length + 1) := ⟨hel1, hsh.1, by rw [List.length_append]; omega⟩
          have hne1 : (er == 1) = false := by rw [beq_eq_false_iff_ne]; exact he1
          clear her hpo hlg' hst' hacc HBG HPN HNM HAC hM hsh hl0 he1
          gi_wp2
          refine wpIn_wide.2 (Code.wp_mono NoPanic.imp ?_)
          go_region_law (obtain ⟨a7, c7, w7, r1, z1, z2, z3⟩ := HG.out 1; have Z3 : Hid _ := z3; clear z3; refine step_append_runG (by rfl) _ _ _ _ (by rfl) _ _ _ _ (by rfl) (by rfl) r1 ?_)
          all_goals refine NoPanic.normal ?_
          all_goals
            have cA := HAP.out _ _ Z3.out
            have m6 := HM.out _ Z3.out.bw
            by_cases he0 : er = 0
            · subst he0
              have HEQ2 : Hid (acc = all ++ l) := HEQ.out rfl
              by_cases hfl : (i : Int) = flush
              · have hfl' : ((i : Int) == flush) = true := by rw [hfl]; simp
                clear hfl
                gi_wp2_with (first
                  | (refine ⟨trivial, ?_⟩; gi_at_call 24; refine (callsIn_wide.2 cA).mono ?_; rintro e w8 ⟨rfl, R8⟩; (have HR8 : Hid (Rz W0 w8 w4.heap.size lb d lg' st' (all ++ l) (.slice a7 M c7) u12 ends) := R8); have c98 := R8.bx.cell; have hz8 := R8.bw.size; clear R8 cA)
                  | (gi_at_builtin; refine wpListIn_append_own_at _ rfl _ _ 37 rfl W0.heap.size 3 j0 (.int .i64 0) 1 8 Tryz.underlying37 hj0 hy0 hy1 hy2 rfl (by decide) _ ends.length _ rfl (HR8.out.er.alloc _) ⟨w8.heap.size, 0, none⟩ 1 1 [.int .i64 (M : Int)] rfl rfl (cell_one_new _ _ _) (by simp [Value.oneCell']) hbn.1 hbn.2 (by simp; omega) ?_; intro ev1 w10 hown hgrow _ hat; (have HR10 : Hid (Rz W0 w10 w4.heap.size lb d lg' st' (all ++ l) (.slice a7 M c7) ev1 (ends ++ [M])) := HR8.out.push hgrow hown (fun x hx => by rcases hat with e | e; exact .inl (e ▸ hx); (rw [e] at hx; cases hx; exact .inr (by simp)))); have cX := HR10.out.flush; clear hown hgrow hat)
                  | (refine ⟨trivial, ?_⟩; gi_at_call 25; refine (callsIn_wide.2 cX).mono ?_; rintro e w11 ⟨rfl, R11⟩; (have HR11 : Hid (Rz W0 w11 w4.heap.size lb d (gFlush lg' st').2.1 (gFlush lg' st').2.2 (all ++ l) (.slice a7 M c7) ev1 (ends ++ [M])) := R11); have cS := gSure_any R11.ls; clear R11 cX)
                  | (refine ⟨trivial, ?_⟩; gi_at_call 18; refine (callsIn_wide.2 cS).mono ?_; rintro e w12 ⟨rfl, hw12⟩; rw [hw12]; clear hw12 w12 cS))
                have hS := HS1.out _ _ _ HR11.out
                rw [HEQ2.out] at hS
                have HSS : Hid _ := hS
                clear hS
                go_roundw
                case rel => exact ⟨i + 1, _, ends ++ [M], by simp, by omega, rfl, ⟨_, _, _, _, HSS.out, rfl, by rw [List.length_append, List.length_singleton]; exact HEL.out.2.2⟩⟩
                case measure => simp [intOf]; omega
              · have hfl' : ((i : Int) == flush) = false := by rw [beq_eq_false_iff_ne]; exact hfl
                clear hfl
                gi_wp2_with (first
                  | (refine ⟨trivial, ?_⟩; gi_at_call 24; refine (callsIn_wide.2 cA).mono ?_; rintro e w8 ⟨rfl, R8⟩; (have HR8 : Hid (Rz W0 w8 w4.heap.size lb d lg' st' (all ++ l) (.slice a7 M c7) u12 ends) := R8); have c98 := R8.bx.cell; have hz8 := R8.bw.size; clear R8 cA)
                  | (gi_at_builtin; refine wpListIn_append_own_at _ rfl _ _ 37 rfl W0.heap.size 3 j0 (.int .i64 0) 1 8 Tryz.underlying37 hj0 hy0 hy1 hy2 rfl (by decide) _ ends.length _ rfl (HR8.out.er.alloc _) ⟨w8.heap.size, 0, none⟩ 1 1 [.int .i64 (M : Int)] rfl rfl (cell_one_new _ _ _) (by simp [Value.oneCell']) hbn.1 hbn.2 (by simp; omega) ?_; intro ev1 w10 hown hgrow _ hat; (have HR10 : Hid (Rz W0 w10 w4.heap.size lb d lg' st' (all ++ l) (.slice a7 M c7) ev1 (ends ++ [M])) := HR8.out.push hgrow hown (fun x hx => by rcases hat with e | e; exact .inl (e ▸ hx); (rw [e] at hx; cases hx; exact .inr (by simp)))); have cS := gSure_any HR10.out.ls; clear hown hgrow hat)
                  | (refine ⟨trivial, ?_⟩; gi_at_call 18; refine (callsIn_wide.2 cS).mono ?_; rintro e w12 ⟨rfl, hw12⟩; rw [hw12]; clear hw12 w12 cS))
                have hS := HS0.out _ _ _ HR10.out
                rw [HEQ2.out] at hS
                have HSS : Hid _ := hS
                clear hS
                go_roundw
                case rel => exact ⟨i + 1, _, ends ++ [M], by simp, by omega, rfl, ⟨_, _, _, _, HSS.out, rfl, by rw [List.length_append, List.length_singleton]; exact HEL.out.2.2⟩⟩
                case measure => simp [intOf]; omega
            · have hne0 : (er != 0) = true := by rw [bne_iff_ne]; exact he0
              clear he0
              by_cases hfl : (i : Int) = flush
              · have hfl' : ((i : Int) == flush) = true := by rw [hfl]; simp
                clear hfl
                gi_wp2_with (first
                  | (refine ⟨trivial, ?_⟩; gi_at_call 24; refine (callsIn_wide.2 cA).mono ?_; rintro e w8 ⟨rfl, R8⟩; (have HR8 : Hid (Rz W0 w8 w4.heap.size lb d lg' st' (all ++ l) (.slice a7 M c7) u12 ends) := R8); have c98 := R8.bx.cell; have hz8 := R8.bw.size; clear R8 cA)
                  | (gi_at_builtin; refine wpListIn_append_own_at _ rfl _ _ 37 rfl W0.heap.size 3 j0 (.int .i64 0) 1 8 Tryz.underlying37 hj0 hy0 hy1 hy2 rfl (by decide) _ ends.length _ rfl (HR8.out.er.alloc _) ⟨w8.heap.size, 0, none⟩ 1 1 [.int .i64 (M : Int)] rfl rfl (cell_one_new _ _ _) (by simp [Value.oneCell']) hbn.1 hbn.2 (by simp; omega) ?_; intro ev1 w10 hown hgrow _ hat; (have HR10 : Hid (Rz W0 w10 w4.heap.size lb d lg' st' (all ++ l) (.slice a7 M c7) ev1 (ends ++ [M])) := HR8.out.push hgrow hown (fun x hx => by rcases hat with e | e; exact .inl (e ▸ hx); (rw [e] at hx; cases hx; exact .inr (by simp)))); have cX := HR10.out.flush; clear hown hgrow hat)
                  | (refine ⟨trivial, ?_⟩; gi_at_call 25; refine (callsIn_wide.2 cX).mono ?_; rintro e w11 ⟨rfl, R11⟩; (have HR11 : Hid (Rz W0 w11 w4.heap.size lb d (gFlush lg' st').2.1 (gFlush lg' st').2.2 (all ++ l) (.slice a7 M c7) ev1 (ends ++ [M])) := R11); have cS := gSure_any R11.ls; clear R11 cX)
                  | (refine ⟨trivial, ?_⟩; gi_at_call 18; refine (callsIn_wide.2 cS).mono ?_; rintro e w12 ⟨rfl, hw12⟩; rw [hw12]; clear hw12 w12 cS))
                exact HT.out (HS1.out _ _ _ HR11.out) rfl
              · have hfl' : ((i : Int) == flush) = false := by rw [beq_eq_false_iff_ne]; exact hfl
                clear hfl
                gi_wp2_with (first
                  | (refine ⟨trivial, ?_⟩; gi_at_call 24; refine (callsIn_wide.2 cA).mono ?_; rintro e w8 ⟨rfl, R8⟩; (have HR8 : Hid (Rz W0 w8 w4.heap.size lb d lg' st' (all ++ l) (.slice a7 M c7) u12 ends) := R8); have c98 := R8.bx.cell; have hz8 := R8.bw.size; clear R8 cA)
                  | (gi_at_builtin; refine wpListIn_append_own_at _ rfl _ _ 37 rfl W0.heap.size 3 j0 (.int .i64 0) 1 8 Tryz.underlying37 hj0 hy0 hy1 hy2 rfl (by decide) _ ends.length _ rfl (HR8.out.er.alloc _) ⟨w8.heap.size, 0, none⟩ 1 1 [.int .i64 (M : Int)] rfl rfl (cell_one_new _ _ _) (by simp [Value.oneCell']) hbn.1 hbn.2 (by simp; omega) ?_; intro ev1 w10 hown hgrow _ hat; (have HR10 : Hid (Rz W0 w10 w4.heap.size lb d lg' st' (all ++ l) (.slice a7 M c7) ev1 (ends ++ [M])) := HR8.out.push hgrow hown (fun x hx => by rcases hat with e | e; exact .inl (e ▸ hx); (rw [e] at hx; cases hx; exact .inr (by simp)))); have cS := gSure_any HR10.out.ls; clear hown hgrow hat)
                  | (refine ⟨trivial, ?_⟩; gi_at_call 18; refine (callsIn_wide.2 cS).mono ?_; rintro e w12 ⟨rfl, hw12⟩; rw [hw12]; clear hw12 w12 cS))
                exact HT.out (HS0.out _ _ _ HR10.out) rfl
      · have hli : ¬ (i : Int) < (n0 : Int) := by omega
        gi_wp2
        exact HT.out hJ hsu

theorem sized_at {H : Type} {P : Program} {ts : List TypeId} {ds : List (DataW H)} (h : (DataW.weightsEach P ts ds).all (· ≤ reachBytes) = true) {i : Nat} {t : TypeId} {d : DataW H} (ht : ts[i]? = some t) (hd : ds[i]? = some d) : (d.weights P t).all (· ≤ reachBytes) = true := by
  rw [List.all_eq_true] at h ⊢
  exact fun n hn => h n (DataW.weights_mem_each ht hd n hn)
theorem sized_part {H : Type} {P : Program} {ts : List TypeId} {ds : List (DataW H)} (h : (DataW.weightsEach P ts ds).all (· ≤ reachBytes) = true) {i : Nat} {t : TypeId} {fs : Array Field} {parts : List (DataW H)} (ht : ts[i]? = some t) (hd : ds[i]? = some (.agg parts)) (hu : P.underlying t = some (.struct fs))
    {j : Nat} {u : TypeId} {d : DataW H} (hj : (fs.toList.map (·.type))[j]? = some u) (hp : parts[j]? = some d) : (d.weights P u).all (· ≤ reachBytes) = true := by
  have h1 := sized_at h ht hd
  simp only [DataW.weights, hu] at h1
  exact sized_at h1 hj hp

open Go.ChangeShapes Go.WideShapes Go.ChangeAt Go.WideMaps Go.WideElems in
set_option maxRecDepth 100000 in
theorem lifted (os : Os) (started : os.Started) (H : Type) (enc : TypeId × Value → H) :
    ReturnsInHanded {} Tryz.checked os 5 .any (fun w args => (Rows.seglogSureSpec.pre enc Tryz.prog Tryz.f5 [] false w args ∧ laidMetH Tryz.prog laid5 w) ∧ sizedMet enc Tryz.prog Tryz.f5 (OpenSpec.ofChange Rows.seglogSureSpec) false w args)
      (Rows.seglogSureSpec.post enc Tryz.prog Tryz.f5 false true false false) := by
  refine returnsInHanded_of_change_and (C := Tryz.checked) (X := fun w _ => laidMetH Tryz.prog laid5 w) (fun _ _ _ hh h => h.of_heap hh) own6 started (by kernel_rfl) Tryz.func5
    (ChangeSpec.witness_shaped (enc := enc) (C := Tryz.checked) (os := os) (X := fun w _ => laidMetH Tryz.prog laid5 w) false (World.doorLaid Tryz.prog 400 os) #[.agg #[.slice none 0 0, .int .i64 0, .int .i64 0, .slice none 0 0]] 8 rfl (World.shaped_of_RefB (by kernel_rfl) (by kernel_rfl)) (by kernel_rfl) (by kernel_rfl) (by kernel_rfl) (door_met os _)) ?_
  intro W base args ds gs before hval0 hW _ hsz0 hL _
  have hval : ∀ (j : Nat) t v, Tryz.f5.params[j]? = some t → args[j]? = some v → Value.okWide Tryz.prog W .any base t v := hval0
  have hsz : (DataW.weightsEach Tryz.prog (Tryz.f5.params.toList ++ Rows.seglogSureSpec.plain.varTypes Tryz.prog) (ds ++ gs)).all (· ≤ reachBytes) = true := hsz0
  have hW' := hW
  obtain ⟨p, q, hA0, hV, rfl, hfz, hnd⟩ := hW
  have hA : DataW.TrodAll enc Tryz.prog W 0 (fun _ => true) true Tryz.f5.params.toList args.toList ds p := hA0
  rw [Tryz.params5] at hA hval hsz
  obtain ⟨v0, vs0, d0, ds0, p0, q0, hargs, rfl, rfl, h0, r0⟩ := trodAll_cons hA
  obtain ⟨rfl, rfl, rfl⟩ := trodAll_nil r0
  obtain rfl : args = #[v0] := by cases args; simp_all
  obtain ⟨rfl, rfl⟩ := trodVars_none hV
  have k0 := h0
  have lt0 : ∀ x ∈ p0, x.block < W.heap.size := by obtain ⟨m, hm⟩ := k0; exact DataW.trod_lt m _ _ _ hm
  obtain ⟨c0, c1, c2, c3, y0, y1, y2, y3, m, rfl, rfl, _, t0, t1, t2, t3⟩ := Go.Joins.open_agg4 Tryz.underlying60 (by kernel_rfl) (by kernel_rfl) (hval 0 60 v0 rfl rfl) h0
  obtain ⟨a1, e1, g1, w1⟩ := DataW.trod_int Tryz.underlying3 t1
  obtain ⟨a2, e2, g2, w2⟩ := DataW.trod_int Tryz.underlying3 t2
  obtain ⟨ls, a, c, rfl, hlen, hb⟩ := openBatsW t0
  obtain ⟨ka, ks, kc, rfl, hk, hkb⟩ := openKs t3
  simp at e1 e2
  subst e1 e2
  have hb' := hb (sized_part hsz (i := 0) (j := 0) rfl rfl Tryz.underlying60 rfl rfl)
  clear hA0 hval0
  refine (walk a c ls.length a1 a2 ka ks kc (bounds_i64 w2).2 W (gv_of hL) (ev_of hL) hb' hk hkb hlen).mono fun e W' ⟨he, bel⟩ => ?_
  subst he
  exact ⟨_, rfl, _, _, _, [], _, [], hW', trodAll_mk1 (shut_bool Tryz.underlying4 _), (trodAll_cons_mk (Below.trod laidOut6 (by kernel_rfl) (of_decide_eq_true (by kernel_rfl)) k0 bel lt0) trodAll_mk0), rfl, bel.frame _, fun h => by cases h⟩
theorem said : Rows.SeglogSureSaid :=
  OpenClaim.holds_of_wide 5 Tryz.f5 rfl rfl rfl rfl rfl rfl rfl ⟨rfl, rfl, rfl, rfl, rfl⟩ rfl rfl rfl rfl rfl (by kernel_rfl) Tryz.func5 (by kernel_rfl)
    (of_decide_eq_true (by kernel_rfl)) (by unfold Func.isWrapper; first | (rw [if_pos (by decide +kernel)]; kernel_rfl) | (rw [if_neg (by decide +kernel)]; exact ⟨rfl, rfl⟩))
    (fun os started H enc _ => lifted os started H enc)
theorem proved : Rows.SeglogSureCardSaid :=
  Claim7.holds_tied_plain_at .later [] [.data, .data, .data, .sentinel, .sentinel] true (true, "f465d8e3f52d57a53283eeb434ca32860bbaf215ea8d2dc8c2c0644a2c703a96") true
    said (fun _ h => by cases h) (by kernel_rfl) (fun _ h => by cases h) seglogSure_row_tie rfl ⟨rfl, rfl⟩ (by kernel_rfl) rfl
    (fun f fn hf hfn => by
      obtain rfl : f = 5 := Option.some.inj ((show Tryz.prog.funcNamed "wherry/wherrylaw06.SeglogSure" = some 5 by kernel_rfl).symm.trans hf) |>.symm
      obtain rfl : fn = Tryz.f5 := (Option.some.inj (Tryz.func5.symm.trans hfn)).symm
      exact ⟨by kernel_rfl, fun j t ht => by
        rw [Tryz.params5] at ht
        have hm : t ∈ [60] := by simpa using Array.mem_of_getElem? ht
        have hall : ([60].all fun u => !Tryz.prog.wantsStandIn u) = true := by kernel_rfl
        exact (show Tryz.prog.wantsStandIn t = false by simpa using List.all_eq_true.1 hall t hm)⟩)
    (by kernel_rfl)
end Go.Proofs.YteifkkceldlfnaaGreatDoor.seglogSure

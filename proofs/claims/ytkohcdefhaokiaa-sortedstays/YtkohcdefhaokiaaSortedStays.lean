/-
  Proved: SortedStays answers true, and changes nothing that was there before the call, for every input: a range goes over what the map had when it began, whatever is put and taken away while it goes on; and it can be gone over again.
-/
import Derived.Test.YtkohcdefhaokiaaSStay
import Derived.Test.YtkohcdefhaokiaaSActs
import Derived.ProofKit
import Derived.OpenShut
import Derived.ShutString
import Derived.SizedLaws
import Derived.Stop.RegionWithIn
namespace Go.Proofs.Ytkohcdefhaokiaa.sortedStays
open Go.ChangeShapes Go.WideShapes Go.ChangeAt Go.RowKit Go.Shelf Go.Lib Go.Sort
open Go.ChangeMaps (open_string shut_string)

attribute [local go_sem] Oper.semAt_some

set_option maxHeartbeats 8000000 in
set_option maxRecDepth 100000 in
theorem walk (va vb : Value) (q p : List (Int × ByteArray × Int)) (k0 : ByteArray) (hk0 : k0.size < 4611686018427387904) (hql : q.length ≤ 4398046510976) (hqs : ∀ (j : Nat) (t : Int × ByteArray × Int), q[j]? = some t → t.2.1.size < 4611686018427387904) (hpl : p.length ≤ 4398046510976) (hps : ∀ (j : Nat) (t : Int × ByteArray × Int), p[j]? = some t → t.2.1.size < 4611686018427387904) (w : World) (hs : Acts w va q) (ht : Acts w vb p) :
    Calls Try.prog 4 #[va, vb, .string k0] w fun r w' => r = .returned (.bool true) ∧ Below w.heap.size w w' := by
  obtain ⟨a, cap, rfl, hs⟩ := hs
  obtain ⟨a2, cap2, rfl, ht⟩ := ht
  have HS : Hid (∀ (j : Nat) (t : Int × ByteArray × Int), q[j]? = some t → t.2.1.size < 4611686018427387904) := hqs
  have HT : Hid (∀ (j : Nat) (t : Int × ByteArray × Int), p[j]? = some t → t.2.1.size < 4611686018427387904) := hps
  have HH : Hid (p = [] ∨ ∃ b off, a2 = some ⟨b, off, none⟩ ∧ b < w.heap.size ∧ ∀ (j : Nat) (t : Int × ByteArray × Int), p[j]? = some t →
    w.cell? ⟨b, off + j * 3, none⟩ = some (.int .i64 t.1) ∧ w.cell? ⟨b, off + j * 3 + 1, none⟩ = some (.string t.2.1) ∧ w.cell? ⟨b, off + j * 3 + 2, none⟩ = some (.int .i64 t.2.2)) := ht
  clear hqs hps ht
  refine (callsIn_wide (n := 9)).1 ?_
  refine callsIn_of_wp_marks Try.func4 rfl trivial ?_ rfl
  simp only [Try.ntmps4, List.size_toArray, List.length_cons, List.length_nil, Nat.reduceAdd, Nat.reduceSub, Array.replicate_succ, Array.replicate_zero, List.push_toArray, List.append_toArray, List.nil_append, List.cons_append]
  obtain ⟨wa, hwa⟩ : ∃ wa, wa = w.alloc (.cells #[.slice a2 p.length cap2] 22) := ⟨_, rfl⟩
  have hsa : wa.heap.size = w.heap.size + 1 := by rw [hwa]; simp
  have hBa : Below w.heap.size w wa := by rw [hwa]; exact (Below.refl _ w).alloc (Nat.le_refl _) _
  have hba : Bx wa w.heap.size (.slice a2 p.length cap2) 22 := by rw [hwa]; exact Bx.new w _ _
  gi_wp2_with (first
    | (refine ⟨trivial, ?_⟩; gi_at_call 9; rw [← hwa]; refine (callsIn_wide.2 (shown_any _)).mono ?_; rintro r w1 ⟨rfl, b1⟩)
    | (refine ⟨trivial, ?_⟩; gi_at_call 10; refine (callsIn_wide.2 (New_any _)).mono ?_; rintro r w2 ⟨rfl, hM2, b2⟩))
  obtain ⟨w3, hw3⟩ : ∃ w3, w3 = (((w2.alloc (.cells #[.pointer (some ⟨w1.heap.size, 0, none⟩)] 24)).alloc (.cells #[.slice none 0 0, .slice none 0 0] 30)).alloc (.cells #[.pointer (some ⟨w2.heap.size + 1, 0, none⟩)] 26)) := ⟨_, rfl⟩
  have hs1 := b1.size
  have hs2 : w1.heap.size < w2.heap.size := hM2.lt
  have hs3 : w3.heap.size = w2.heap.size + 1 + 1 + 1 := by rw [hw3]; simp
  have B3 : Below w2.heap.size w2 w3 := by rw [hw3]; exact (((Below.refl _ w2).alloc (Nat.le_refl _) _).alloc (by simp) _).alloc (by simp; omega) _
  have B12 : Below wa.heap.size wa w2 := b1.trans (b2.mono hs1)
  have P0 : Ps w w1.heap.size (w2.heap.size + 1) [] (.slice none 0 0) none (.slice none 0 0) (.slice none 0 0) w3 := by
    refine ⟨⟨hM2.below B3, ⟨?_, rfl, World.ownsRow_nil _ _ _ _, World.ownsRow_nil _ _ _ _⟩, fun e he => (by cases he)⟩, (hBa.trans (B12.mono (by omega))).trans (B3.mono (by omega)), fun g e => (by cases e), fun g e => (by cases e), by omega, by omega, fun b e => (by cases e)⟩
    rw [hw3]
    have := heap_alloc_new (w2.alloc (.cells #[.pointer (some ⟨w1.heap.size, 0, none⟩)] 24)) (.cells #[.slice none 0 0, .slice none 0 0] 30)
    rw [World.size_alloc] at this
    exact (Below.heap_alloc _ _ _ (by simp)).trans this
  have E0 : Env w.heap.size w2.heap.size (w2.heap.size + 1 + 1) w1.heap.size (w2.heap.size + 1) (.slice a2 p.length cap2) w3 := by
    refine ⟨(hba.below B12 (by omega)).below B3 (by omega), ?_, ?_⟩
    · rw [hw3]; exact ((Bx.new w2 _ _).alloc _).alloc _
    · rw [hw3]
      have := Bx.new ((w2.alloc (.cells #[.pointer (some ⟨w1.heap.size, 0, none⟩)] 24)).alloc (.cells #[.slice none 0 0, .slice none 0 0] 30)) (.pointer (some ⟨w2.heap.size + 1, 0, none⟩)) 26
      rwa [World.size_alloc, World.size_alloc] at this
  rw [← hw3]
  clear hw3 hwa hM2 b1 b2 B3 B12 hba hBa
  obtain ⟨mb, hmb⟩ : ∃ mb, mb = w1.heap.size := ⟨_, rfl⟩
  obtain ⟨b8, hb8⟩ : ∃ b8, b8 = w2.heap.size := ⟨_, rfl⟩
  obtain ⟨rb, hrb⟩ : ∃ rb, rb = w2.heap.size + 1 := ⟨_, rfl⟩
  obtain ⟨b9, hb9⟩ : ∃ b9, b9 = w2.heap.size + 1 + 1 := ⟨_, rfl⟩
  rw [← hmb, ← hrb] at P0
  rw [← hmb, ← hb9, ← hrb, ← hb8] at E0
  rw [← hmb, ← hb9, ← hrb, ← hb8]
  clear hmb hb8 hrb hb9 hs1 hs2 hs3 hsa
  gi_loopw [10] (fun vi wr => ∃ (i : Nat) (es : List Ent), vi = .int .i64 i ∧ i ≤ q.length ∧ es.length ≤ i ∧ (∃ sv sq kr vr, Ps w mb rb es sv sq kr vr wr) ∧ Env w.heap.size b8 b9 mb rb (.slice a2 p.length cap2) wr) (fun vi _ => q.length - (intOf vi).toNat)
  case atStart => exact ⟨0, [], rfl, Nat.zero_le _, Nat.le_refl _, ⟨_, _, _, _, P0⟩, E0⟩
  case round =>
    obtain ⟨i, es, rfl, hi, hel, ⟨sv, sq, kr, vr, P⟩, E⟩ := hrel
    clear P0 E0
    by_cases hl : i < q.length
    · have hli : (i : Int) < (q.length : Int) := by omega
      rcases hs with hs | ⟨b, off, rfl, hlt, hc⟩
      · rw [hs] at hl; simp at hl
      obtain ⟨⟨kind, k, v⟩, ht⟩ : ∃ t, q[i]? = some t := ⟨_, List.getElem?_eq_getElem hl⟩
      obtain ⟨c0, c1, c2⟩ := hc i _ ht
      have hkz := HS.out i _ ht
      have bel := P.bl
      have m0 := (bel.cell (p := ⟨b, off + i * 3, none⟩) hlt).trans c0
      have m1 := (bel.cell (p := ⟨b, off + i * 3 + 1, none⟩) hlt).trans c1
      have m2 := (bel.cell (p := ⟨b, off + i * 3 + 2, none⟩) hlt).trans c2
      have x8 := E.2.1.cell
      have x9 := E.2.2.cell
      have PH : Hid (Ps w mb rb es sv sq kr vr wr ∧ Env w.heap.size b8 b9 mb rb (.slice a2 p.length cap2) wr) := ⟨P, E⟩
      clear c0 c1 c2 hc ht P E bel HS HT HH
      dsimp only at m0 m1 m2 hkz
      gi_wp2
      refine wpIn_mono ?_ NoPanic.imp
      gi_region_with (first | (refine ⟨trivial, ?_⟩; gi_at_call 11; refine (callsIn_wide.2 (does_ps PH.out.1.drew kind k v (by omega) (by omega))).mono ?_; rintro e w4 ⟨rfl, P4, C4⟩))
      all_goals refine NoPanic.normal ?_
      all_goals
        have hal := act_len kind k v es
        generalize act kind k v es = es4 at *
        have P4H : Hid ((∃ sv sq kr vr, Ps w mb rb es4 sv sq kr vr w4) ∧ Env w.heap.size b8 b9 mb rb (.slice a2 p.length cap2) w4) := ⟨P4, (show Env w.heap.size b8 b9 mb rb (.slice a2 p.length cap2) wr.drew from PH.out.2).xd PH.out.1.drew.jn.m PH.out.1.drew.jn.r C4⟩
        clear P4 C4 PH
        gi_wp2
        go_roundw
        case rel => exact ⟨i + 1, es4, by simp, by omega, by omega, P4H.out.1, P4H.out.2⟩
        case measure => simp [intOf]; omega
    · have hli : ¬ (i : Int) < (q.length : Int) := by omega
      have y9 := E.2.2.cell
      have hrr := rRange_any P.jn.r P.jn.m.rise P.jn.sh 2 (.inr (.inl rfl)) k0 (by omega) (by omega)
      have PH : Hid (Ps w mb rb es sv sq kr vr wr ∧ Env w.heap.size b8 b9 mb rb (.slice a2 p.length cap2) wr) := ⟨P, E⟩
      have heq : es.length ≤ 4398046510976 := by omega
      clear P E hs HS
      gi_wp2_with (first
        | (refine ⟨trivial, ?_⟩; gi_at_call 15; refine (callsIn_wide.2 hrr).mono ?_; rintro r w4 ⟨kw, vw, rfl, K4, B4⟩; have P4 : Hid (Ps w mb rb es sv sq kr vr w4 ∧ Env w.heap.size b8 b9 mb rb (.slice a2 p.length cap2) w4 ∧ KV w4 w.heap.size kw vw (pick 5 k0 es)) := ⟨PH.out.1.below B4, PH.out.2.below B4, row_low K4.1 PH.out.1.bl.size, row_low K4.2 PH.out.1.bl.size⟩; clear K4 B4 PH hrr; have x8 := ((P4.out.2.1.2.1.alloc (.cells #[.slice none 0 0] 27)).alloc (.cells #[.slice none 0 0] 28)).cell; obtain ⟨w5, hw5⟩ : ∃ w5, w5 = (w4.alloc (.cells #[.slice none 0 0] 27)).alloc (.cells #[.slice none 0 0] 28) := ⟨_, rfl⟩)
        | (refine ⟨trivial, ?_⟩; gi_at_call 16; rw [← hw5]; refine (callsIn_wide.2 (From_any _ _ _)).mono ?_; rintro r w6 ⟨f, kb, rfl, hR, hkb, hkbl, B6⟩))
      have hb5 : w5.heap.size = w4.heap.size + 1 + 1 := by rw [hw5]; simp
      have B45 : Below w4.heap.size w4 w5 := by rw [hw5]; exact ((Below.refl _ w4).alloc (Nat.le_refl _) _).alloc (by simp) _
      have z13 : Bx w6 w4.heap.size (.slice none 0 0) 27 := by
        refine Bx.below ?_ B6 (by omega)
        rw [hw5]; exact (Bx.new w4 _ _).alloc _
      have z14 : Bx w6 (w4.heap.size + 1) (.slice none 0 0) 28 := by
        refine Bx.below ?_ B6 (by omega)
        rw [hw5]
        have := Bx.new (w4.alloc (.cells #[.slice none 0 0] 27)) (.slice none 0 0) 28
        rwa [World.size_alloc] at this
      have B46 : Below w4.heap.size w4 w6 := B45.trans (B6.mono (by omega))
      have HP6 : Hid (Ps w mb rb es sv sq kr vr w6 ∧ Env w.heap.size b8 b9 mb rb (.slice a2 p.length cap2) w6 ∧ KV w6 w.heap.size kw vw (pick 5 k0 es)) := ⟨P4.out.1.below B46, P4.out.2.1.below B46, P4.out.2.2.below B46⟩
      have hb13' : w.heap.size ≤ w4.heap.size := P4.out.1.bl.size
      obtain ⟨b13, hb13e⟩ : ∃ b, b = w4.heap.size := ⟨_, rfl⟩
      obtain ⟨b14, hb14e⟩ : ∃ b, b = w4.heap.size + 1 := ⟨_, rfl⟩
      have hb13 : w.heap.size ≤ b13 := by omega
      have hb14 : w.heap.size ≤ b14 := by omega
      rw [← hb14e] at z14
      rw [← hb13e] at z13
      rw [← hb14e, ← hb13e]
      clear x8 hw5 B45 B46 P4 hb13' hb13e hb14e hb5 B6 y9
      have HP : Pk w6 (.func (.func 34) #[] #[.pointer (some ⟨kb, 0, none⟩)]) (fun es => es.drop (pos es k0)) := .inr (.inr (.inl ⟨kb, k0, rfl, hkb, rfl⟩))
      have hpk : pick 5 k0 es = es.drop (pos es k0) := by simp [pick]
      have hpkl : (es.drop (pos es k0)).length ≤ es.length := by rw [List.length_drop]; omega
      have HPK : Hid (pick 5 k0 es = es.drop (pos es k0)) := hpk
      clear hpk
      refine range_map2 (r1 := 16) (r2 := 17) rfl hR HP HP6.out.1.jn.m (cb := cbOf w6 sv) (fun g hg => by simp [cbOf, hg]) (by omega) (by decide)
        (Ii w w6 b13 b14 mb rb b8 b9 es.length sv (.slice a2 p.length cap2) sq)
        (fun _ _ _ _ => False)
        (Ee w w6 b13 b14 mb rb (es.length + (es.drop (pos es k0)).length) (es.drop (pos es k0)))
        (fun _ _ => False)
        Ii.kept (fun _ _ _ _ _ _ h _ _ => h) (Ee.kept HP6.out.1.bl.size) (fun _ _ _ _ _ h _ _ => h)
        (fun lb W0 hM0 hch hlq hs0 => Ii.start HP6.out.1 HP6.out.2.1 z13 z14 hM0 hch hlq hs0) ?assign ?body
        (fun s A W2 h hb => Ii.out HP6.out.1 hb13 hb14 h hb) (fun _ _ _ _ _ h => h.elim) ?done (fun _ _ h => h.elim)
      case assign =>
        intro mm l x W K hK
        gi_wp2
        exact hK
      case body =>
        rintro mm l s pre x W ⟨kv, vv, es', sv', q', c', kr', vr', hSI, hel', hE, hlq⟩ hnx
        obtain ⟨i0, hi0, hz0, hz1, hz2⟩ := info_parts infoStr
        obtain ⟨j0, hj0, hy0, hy1, hy2⟩ := info_parts infoInt
        have hple : pre.length + 1 ≤ es.length := by
          have := hnx.length_le
          simp at this
          simp at hpkl
          omega
        have hk0c := hSI.k.cell
        have hk0f := hSI.k.fro
        obtain ⟨ka, kc, rfl, -⟩ := row_slice hSI.rows.1
        obtain ⟨va, vc, rfl, -⟩ := row_slice hSI.rows.2
        have RR : Hid (SI w6 b13 b14 mb rb w.heap.size sv s.1 s.2 pre (.slice ka pre.length kc) (.slice va pre.length vc) es' sv' q' c' kr' vr' W ∧ Env w.heap.size b8 b9 mb rb (.slice a2 p.length cap2) W) := ⟨hSI, hE⟩
        clear hSI hE hnx
        simp only [List.setIfInBounds_toArray, List.set_cons_succ, List.set_cons_zero]
        have bnd : pre.length + 1 ≤ maxLen ∧ (pre.length + 1) * 16 ≤ 140737488355328 ∧ (pre.length + 1) * 8 ≤ 140737488355328 := by unfold maxLen; omega
        have hle0 := RR.out.1.le
        have D0 : Hid (Rd2 W s.1 b13 b14 s.2 1 (.slice ka pre.length kc) (.slice va pre.length vc) (.slice ka pre.length kc) (.slice va pre.length vc) (.slice ka pre.length kc) (.slice va pre.length vc) pre pre W) := RR.out.1.half
        by_cases hmore : pre.length < p.length
        · have hmi : (pre.length : Int) < (p.length : Int) := by omega
          rcases HH.out with hs | ⟨b, off, rfl, hlt, hc⟩
          · rw [hs] at hmore; simp at hmore
          obtain ⟨⟨kind, k, v⟩, ht⟩ : ∃ t, p[pre.length]? = some t := ⟨_, List.getElem?_eq_getElem hmore⟩
          obtain ⟨c0, c1, c2⟩ := hc _ _ ht
          have hkz := HT.out _ _ ht
          dsimp only at c0 c1 c2 hkz
          clear hc ht HT HH hkb HP hR
          gi_wp2_with (first
          | (gi_at_builtin; refine wpListIn_append_own_at _ rfl _ _ 27 rfl s.2 9 i0 (.string ⟨#[]⟩) 1 16 Try.underlying27 hi0 hz0 hz1 hz2 rfl (by decide) _ _ _ rfl (D0.out.kr.alloc _) ⟨W.heap.size, 0, none⟩ 1 1 [.string x.1] rfl rfl (cell_one_new _ _ _) (by simp [Value.oneCell']) bnd.1 bnd.2.1 (by simp; omega) ?_; intro v1 wk hown1 hgrow1 _ hat1; obtain ⟨g1, cap1, rfl⟩ := ownsRow_succ hown1; have D1 : Hid (Rd2 W s.1 b13 b14 s.2 1 (.slice ka pre.length kc) (.slice va pre.length vc) (.slice ka pre.length kc) (.slice va pre.length vc) (.slice (some ⟨g1, 0, none⟩) (pre.length + 1) cap1) (.slice va pre.length vc) (pre ++ [x]) pre wk) := D0.out.appK hown1 hgrow1; have A1 : Hid (∀ g, (Value.slice (some ⟨g1, 0, none⟩) (pre.length + 1) cap1).ownBlock = some g → (Value.slice ka pre.length kc).ownBlock = some g ∨ W.heap.size ≤ g) := at_case hat1 (by simp); have hwz : W.heap.size ≤ wk.heap.size := Nat.le_trans (by simp) hgrow1.size; clear hown1 hgrow1 hat1; have hk2 := D1.out.k.cell; have hk3 := D1.out.k.fro; have D2 : Hid (Rd2 W s.1 b13 b14 s.2 1 (.slice ka pre.length kc) (.slice va pre.length vc) (.slice (some ⟨g1, 0, none⟩) (pre.length + 1) cap1) (.slice va pre.length vc) (.slice (some ⟨g1, 0, none⟩) (pre.length + 1) cap1) (.slice va pre.length vc) (pre ++ [x]) pre (wk.setCell ⟨b13, 0, none⟩ (.slice (some ⟨g1, 0, none⟩) (pre.length + 1) cap1))) := D1.out.stK; have hv2 := D2.out.v.cell; have hle2 := D2.out.le)
          | (gi_at_builtin; refine wpListIn_append_own_at _ rfl _ _ 28 rfl s.2 3 j0 (.int .i64 0) 1 8 Try.underlying28 hj0 hy0 hy1 hy2 rfl (by decide) _ _ _ rfl (D2.out.vr.alloc _) ⟨wk.heap.size, 0, none⟩ 1 1 [.int .i64 x.2] rfl rfl (new_one _ _ (by simp) _ _) (by simp [Value.oneCell']) bnd.1 bnd.2.2 (by simp at hle2 ⊢; omega) ?_; intro v3 wv hown3 hgrow3 _ hat3; obtain ⟨g3, cap3, rfl⟩ := ownsRow_succ hown3; have D3 : Hid (Rd2 W s.1 b13 b14 s.2 1 (.slice ka pre.length kc) (.slice va pre.length vc) (.slice (some ⟨g1, 0, none⟩) (pre.length + 1) cap1) (.slice va pre.length vc) (.slice (some ⟨g1, 0, none⟩) (pre.length + 1) cap1) (.slice (some ⟨g3, 0, none⟩) (pre.length + 1) cap3) (pre ++ [x]) (pre ++ [x]) wv) := D2.out.appV hown3 hgrow3; have A3 : Hid (∀ g, (Value.slice (some ⟨g3, 0, none⟩) (pre.length + 1) cap3).ownBlock = some g → (Value.slice va pre.length vc).ownBlock = some g ∨ W.heap.size ≤ g) := at_case hat3 (by simp; omega); clear hown3 hgrow3 hat3; have hv3 := D3.out.v.cell; have hv4 := D3.out.v.fro; have D4 := D3.out.stV; have S5 : Hid (SI w6 b13 b14 mb rb w.heap.size sv s.1 s.2 (pre ++ [x]) (.slice (some ⟨g1, 0, none⟩) (pre.length + 1) cap1) (.slice (some ⟨g3, 0, none⟩) (pre.length + 1) cap3) es' sv' q' c' kr' vr' (wv.setCell ⟨b14, 0, none⟩ (.slice (some ⟨g3, 0, none⟩) (pre.length + 1) cap3)) ∧ KeepsFrom w6.heap.size W (wv.setCell ⟨b14, 0, none⟩ (.slice (some ⟨g3, 0, none⟩) (pre.length + 1) cap3)) ∧ Kq (Xp (w6.heap.size + 2) (cbOf w6 sv) (s.1, s.2)) W (wv.setCell ⟨b14, 0, none⟩ (.slice (some ⟨g3, 0, none⟩) (pre.length + 1) cap3))) := RR.out.1.app D4 A1.out A3.out; have E5 : Hid (Env w.heap.size b8 b9 mb rb (.slice (some ⟨b, off, none⟩) p.length cap2) (wv.setCell ⟨b14, 0, none⟩ (.slice (some ⟨g3, 0, none⟩) (pre.length + 1) cap3))) := RR.out.2.ry RR.out.1 D4.ch; have hk6 := D4.k.cell; have x4 := E5.out.1.cell; have x8 := E5.out.2.1.cell; have x9 := E5.out.2.2.cell; have CC5 : Hid (Below w.heap.size w (wv.setCell ⟨b14, 0, none⟩ (.slice (some ⟨g3, 0, none⟩) (pre.length + 1) cap3))) := S5.out.1.bel HP6.out.1 hb13 hb14 hlq; have m0 := (CC5.out.cell (p := ⟨b, off + pre.length * 3, none⟩) hlt).trans c0; have m1 := (CC5.out.cell (p := ⟨b, off + pre.length * 3 + 1, none⟩) hlt).trans c1; have m2 := (CC5.out.cell (p := ⟨b, off + pre.length * 3 + 2, none⟩) hlt).trans c2; clear D4 D0 D1 D2 D3 A1 A3))
          have hal := act_len kind k v es'
          have S6 : Hid (SI w6 b13 b14 mb rb w.heap.size sv s.1 s.2 (pre ++ [x]) (.slice (some ⟨g1, 0, none⟩) (pre.length + 1) cap1) (.slice (some ⟨g3, 0, none⟩) (pre.length + 1) cap3) es' sv' q' c' kr' vr' (wv.setCell ⟨b14, 0, none⟩ (.slice (some ⟨g3, 0, none⟩) (pre.length + 1) cap3)).drew) := S5.out.1.drew
          have hdo := does_any S6.out.jn S6.out.one kind k v (by omega) (by omega) (Nat.le_trans HP6.out.1.bl.size S6.out.ch.size)
          have hfi : ∀ w9, DEnd (wv.setCell ⟨b14, 0, none⟩ (.slice (some ⟨g3, 0, none⟩) (pre.length + 1) cap3)).drew mb rb w.heap.size (act kind k v es') sv' q' c' kr' vr' w9 → KeepsFrom w6.heap.size W w9 ∧ Kq (Xp (w6.heap.size + 2) (cbOf w6 sv) s) W w9 ∧ Ii w w6 b13 b14 mb rb b8 b9 es.length sv (.slice (some ⟨b, off, none⟩) p.length cap2) sq s (pre ++ [x]) w9 := fun w9 hD => SI.done S6.out (keeps_drew S5.out.2.1) (kq_drew S5.out.2.2) (show Env w.heap.size b8 b9 mb rb (.slice (some ⟨b, off, none⟩) p.length cap2) (wv.setCell ⟨b14, 0, none⟩ (.slice (some ⟨g3, 0, none⟩) (pre.length + 1) cap3)).drew from E5.out) hlq hD (by simp; omega)
          have HF : Hid _ := hfi
          have HD : Hid _ := hdo
          clear hfi hdo S6 S5 E5 CC5 RR HP6 c0 c1 c2
          refine wpIn_mono (Q := fun e _ w' => e = .normal ∧ KeepsFrom w6.heap.size W w' ∧ Kq (Xp (w6.heap.size + 2) (cbOf w6 sv) s) W w' ∧ Ii w w6 b13 b14 mb rb b8 b9 es.length sv (.slice (some ⟨b, off, none⟩) p.length cap2) sq s (pre ++ [x]) w') ?reg ?post
          case post =>
            rintro e a9 w9 ⟨rfl, h9⟩
            gi_wp2
            exact h9
          case reg =>
            gi_region_with (first | (refine ⟨trivial, (fun h => by cases h), ?_⟩; gi_at_call 11; refine (CallsIn.inRound _ (callsIn_wide.2 HD.out)).mono ?_; rintro e w9 ⟨rfl, P9⟩))
            all_goals exact ⟨rfl, HF.out _ P9⟩
        · have hmi : ¬ (pre.length : Int) < (p.length : Int) := by omega
          clear HT HH hkb HP hR
          gi_wp2_with (first
          | (gi_at_builtin; refine wpListIn_append_own_at _ rfl _ _ 27 rfl s.2 9 i0 (.string ⟨#[]⟩) 1 16 Try.underlying27 hi0 hz0 hz1 hz2 rfl (by decide) _ _ _ rfl (D0.out.kr.alloc _) ⟨W.heap.size, 0, none⟩ 1 1 [.string x.1] rfl rfl (cell_one_new _ _ _) (by simp [Value.oneCell']) bnd.1 bnd.2.1 (by simp; omega) ?_; intro v1 wk hown1 hgrow1 _ hat1; obtain ⟨g1, cap1, rfl⟩ := ownsRow_succ hown1; have D1 : Hid (Rd2 W s.1 b13 b14 s.2 1 (.slice ka pre.length kc) (.slice va pre.length vc) (.slice ka pre.length kc) (.slice va pre.length vc) (.slice (some ⟨g1, 0, none⟩) (pre.length + 1) cap1) (.slice va pre.length vc) (pre ++ [x]) pre wk) := D0.out.appK hown1 hgrow1; have A1 : Hid (∀ g, (Value.slice (some ⟨g1, 0, none⟩) (pre.length + 1) cap1).ownBlock = some g → (Value.slice ka pre.length kc).ownBlock = some g ∨ W.heap.size ≤ g) := at_case hat1 (by simp); have hwz : W.heap.size ≤ wk.heap.size := Nat.le_trans (by simp) hgrow1.size; clear hown1 hgrow1 hat1; have hk2 := D1.out.k.cell; have hk3 := D1.out.k.fro; have D2 : Hid (Rd2 W s.1 b13 b14 s.2 1 (.slice ka pre.length kc) (.slice va pre.length vc) (.slice (some ⟨g1, 0, none⟩) (pre.length + 1) cap1) (.slice va pre.length vc) (.slice (some ⟨g1, 0, none⟩) (pre.length + 1) cap1) (.slice va pre.length vc) (pre ++ [x]) pre (wk.setCell ⟨b13, 0, none⟩ (.slice (some ⟨g1, 0, none⟩) (pre.length + 1) cap1))) := D1.out.stK; have hv2 := D2.out.v.cell; have hle2 := D2.out.le)
          | (gi_at_builtin; refine wpListIn_append_own_at _ rfl _ _ 28 rfl s.2 3 j0 (.int .i64 0) 1 8 Try.underlying28 hj0 hy0 hy1 hy2 rfl (by decide) _ _ _ rfl (D2.out.vr.alloc _) ⟨wk.heap.size, 0, none⟩ 1 1 [.int .i64 x.2] rfl rfl (new_one _ _ (by simp) _ _) (by simp [Value.oneCell']) bnd.1 bnd.2.2 (by simp at hle2 ⊢; omega) ?_; intro v3 wv hown3 hgrow3 _ hat3; obtain ⟨g3, cap3, rfl⟩ := ownsRow_succ hown3; have D3 : Hid (Rd2 W s.1 b13 b14 s.2 1 (.slice ka pre.length kc) (.slice va pre.length vc) (.slice (some ⟨g1, 0, none⟩) (pre.length + 1) cap1) (.slice va pre.length vc) (.slice (some ⟨g1, 0, none⟩) (pre.length + 1) cap1) (.slice (some ⟨g3, 0, none⟩) (pre.length + 1) cap3) (pre ++ [x]) (pre ++ [x]) wv) := D2.out.appV hown3 hgrow3; have A3 : Hid (∀ g, (Value.slice (some ⟨g3, 0, none⟩) (pre.length + 1) cap3).ownBlock = some g → (Value.slice va pre.length vc).ownBlock = some g ∨ W.heap.size ≤ g) := at_case hat3 (by simp; omega); clear hown3 hgrow3 hat3; have hv3 := D3.out.v.cell; have hv4 := D3.out.v.fro; have D4 := D3.out.stV; have S5 : Hid (SI w6 b13 b14 mb rb w.heap.size sv s.1 s.2 (pre ++ [x]) (.slice (some ⟨g1, 0, none⟩) (pre.length + 1) cap1) (.slice (some ⟨g3, 0, none⟩) (pre.length + 1) cap3) es' sv' q' c' kr' vr' (wv.setCell ⟨b14, 0, none⟩ (.slice (some ⟨g3, 0, none⟩) (pre.length + 1) cap3)) ∧ KeepsFrom w6.heap.size W (wv.setCell ⟨b14, 0, none⟩ (.slice (some ⟨g3, 0, none⟩) (pre.length + 1) cap3)) ∧ Kq (Xp (w6.heap.size + 2) (cbOf w6 sv) (s.1, s.2)) W (wv.setCell ⟨b14, 0, none⟩ (.slice (some ⟨g3, 0, none⟩) (pre.length + 1) cap3))) := RR.out.1.app D4 A1.out A3.out; have E5 : Hid (Env w.heap.size b8 b9 mb rb (.slice a2 p.length cap2) (wv.setCell ⟨b14, 0, none⟩ (.slice (some ⟨g3, 0, none⟩) (pre.length + 1) cap3))) := RR.out.2.ry RR.out.1 D4.ch; have hk6 := D4.k.cell; have x4 := E5.out.1.cell; clear D4 D0 D1 D2 D3 A1 A3))
          exact ⟨S5.out.2.1, S5.out.2.2, _, _, _, _, _, _, _, _, S5.out.1, by simp; omega, E5.out, hlq⟩
      case done =>
        rintro W ⟨kv, vv, es2, sv2, q2, kr2, vr2, h13, h14, hK, hP2, hC, hn2⟩ hD
        have K2 := HP6.out.2.2.ch4 HP6.out.1 z13 z14 hC
        rw [HPK.out] at K2
        have hl13 := z13.lt
        have hl14 := z14.lt
        have hmlt := HP6.out.1.jn.m.lt
        have hrlt := HP6.out.1.jn.r.lt
        have hw6 : w.heap.size ≤ w6.heap.size := HP6.out.1.bl.size
        have GG : Hid (Ps w mb rb es2 sv2 q2 kr2 vr2 W ∧ Env w.heap.size b8 b9 mb rb (.slice a2 p.length cap2) W ∧ Rg W w5.heap.size f (some ⟨mb, 0, none⟩) (.func (.func 34) #[] #[.pointer (some ⟨kb, 0, none⟩)]) ∧ Bx W kb (.string k0) 9 ∧ Bx W b13 kv 27 ∧ Bx W b14 vv 28 ∧ KV W w.heap.size kv vv (es.drop (pos es k0)) ∧ KV W w.heap.size kw vw (es.drop (pos es k0))) :=
          ⟨hP2, HP6.out.2.1.ch4 HP6.out.1 z13 z14 hC, hR.ch4 HP6.out.1 z13 z14 hC, bx_ch4 HP6.out.1 z13 z14 hC hkb (by decide) (by decide), h13, h14, hK, K2⟩
        have hn2' : es2.length ≤ 8796093021952 := by omega
        have c13 := h13.cell
        have c14 := h14.cell
        clear K2 hP2 h13 h14 hK hC hn2 HP6 z13 z14 hR hkb HP HH HT HPK
        gi_wp2_with (first
          | (refine ⟨trivial, ?_⟩; gi_at_call 14; refine (callsIn_wide.2 (alike_any GG.out.2.2.2.2.2.2.1 GG.out.2.2.2.2.2.2.2 (most_all _).symm (by omega))).mono ?_; rintro r w7 ⟨rfl, B7⟩; have x9 := (GG.out.2.1.below B7).2.2.cell; have P7 := GG.out.1.below B7; have hrr := rRange_any P7.jn.r P7.jn.m.rise P7.jn.sh 2 (.inr (.inl rfl)) k0 (by omega) (by omega); have hD7 := (B7.block w6.heap.size (Array.getElem?_eq_some_iff.1 hD).1).trans hD; clear P7)
          | (refine ⟨trivial, ?_⟩; gi_at_call 15; refine (callsIn_wide.2 hrr).mono ?_; rintro r w8 ⟨kw2, vw2, rfl, K8, B8⟩; have hB78 : Hid (Below W.heap.size W w8) := B7.trans (B8.mono B7.size); have y13 := GG.out.2.2.2.2.1.below hB78.out GG.out.2.2.2.2.1.lt; have y14 := GG.out.2.2.2.2.2.1.below hB78.out GG.out.2.2.2.2.2.1.lt; have hBN : Hid (Bx ((w8.setCell ⟨b13, 0, none⟩ (.slice none 0 0)).setCell ⟨b14, 0, none⟩ (.slice none 0 0)) b13 (.slice none 0 0) 27 ∧ Bx ((w8.setCell ⟨b13, 0, none⟩ (.slice none 0 0)).setCell ⟨b14, 0, none⟩ (.slice none 0 0)) b14 (.slice none 0 0) 28 ∧ Ch (fun b => b = b13 ∨ b = b14) w8 ((w8.setCell ⟨b13, 0, none⟩ (.slice none 0 0)).setCell ⟨b14, 0, none⟩ (.slice none 0 0))) := boxes_nil y13 y14; have hY : Hid (Bx w8 b13 kv 27 ∧ Bx w8 b14 vv 28) := ⟨y13, y14⟩; have u13 := y13.cell; have f13 := y13.fro; have y14' := y14.ch (show Ch (fun b => b = b13) w8 (w8.setCell ⟨b13, 0, none⟩ (.slice none 0 0)) from (Ch.refl (fun b => b = b13) w8).setCell ⟨b13, 0, none⟩ _ (fun _ => rfl)) (y13.ne y14 (by decide)).symm; have u14 := y14'.cell; have f14 := y14'.fro; clear y14' y14 y13 x9))
        obtain ⟨w9, hw9⟩ : ∃ w9, w9 = (w8.setCell ⟨b13, 0, none⟩ (.slice none 0 0)).setCell ⟨b14, 0, none⟩ (.slice none 0 0) := ⟨_, rfl⟩
        rw [← hw9]
        have P8 := GG.out.1.below hB78.out
        have hCb : Ch (fun b => b = b13 ∨ b = b14) w8 w9 := by rw [hw9]; exact hBN.out.2.2
        have hC4 : Ch (fun b => b = mb ∨ b = rb ∨ b = b13 ∨ b = b14) w8 w9 := hCb.mono' (fun b e => .inr (.inr e))
        have z13 : Bx w9 b13 (.slice none 0 0) 27 := by rw [hw9]; exact hBN.out.1
        have z14 : Bx w9 b14 (.slice none 0 0) 28 := by rw [hw9]; exact hBN.out.2.1
        have P9 := P8.ch4 hY.out.1 hY.out.2 hb13 hb14 hCb
        have hW8 : w.heap.size ≤ w7.heap.size := Nat.le_trans GG.out.1.bl.size B7.size
        have K9 := KV.ch4 (base := w.heap.size) ⟨row_low K8.1 hW8, row_low K8.2 hW8⟩ P8 hY.out.1 hY.out.2 hC4
        have hD8 := (B8.block w6.heap.size (Array.getElem?_eq_some_iff.1 hD7).1).trans hD7
        have hD9 : w9.heap[w6.heap.size]? = some (.deferred (some [])) := hCb.obj hD8 (by rintro (e | e) <;> omega)
        have hl69 := (Array.getElem?_eq_some_iff.1 hD9).1
        have HP9 : Hid (Ps w mb rb es2 sv2 q2 kr2 vr2 w9 ∧ Env w.heap.size b8 b9 mb rb (.slice a2 p.length cap2) w9 ∧ KV w9 w.heap.size kw2 vw2 (pick 5 k0 es2)) := ⟨P9, (GG.out.2.1.below hB78.out).ch4 P8 hY.out.1 hY.out.2 hC4, K9⟩
        have hR := (GG.out.2.2.1.below hB78.out).ch4 P8 hY.out.1 hY.out.2 hC4
        have hkb := bx_ch4 P8 hY.out.1 hY.out.2 hC4 (GG.out.2.2.2.1.below hB78.out GG.out.2.2.2.1.lt) (by decide) (by decide)
        clear P8 hCb hC4 P9 K9 hD8 hw9 hBN hY GG hB78 K8 B8 B7 hD7 hD hrr u13 u14 f13 f14 c13 c14
        have HP : Pk w9 (.func (.func 34) #[] #[.pointer (some ⟨kb, 0, none⟩)]) (fun es => es.drop (pos es k0)) := .inr (.inr (.inl ⟨kb, k0, rfl, hkb, rfl⟩))
        have hpk2 : pick 5 k0 es2 = es2.drop (pos es2 k0) := by simp [pick]
        have hpkl2 : (es2.drop (pos es2 k0)).length ≤ es2.length := by rw [List.length_drop]; omega
        have HPK : Hid (pick 5 k0 es2 = es2.drop (pos es2 k0)) := hpk2
        clear hpk2
        refine range_map2 (r1 := 20) (r2 := 21) rfl hR HP HP9.out.1.jn.m (cb := cbOf w9 sv2) (fun g hg => by simp [cbOf, hg]) (by omega) (by decide)
          (Ii w w9 b13 b14 mb rb b8 b9 es2.length sv2 (.slice a2 p.length cap2) q2)
          (fun _ _ _ _ => False)
          (Ee w w9 b13 b14 mb rb (es2.length + (es2.drop (pos es2 k0)).length) (es2.drop (pos es2 k0)))
          (fun _ _ => False)
          Ii.kept (fun _ _ _ _ _ _ h _ _ => h) (Ee.kept HP9.out.1.bl.size) (fun _ _ _ _ _ h _ _ => h)
          (fun lb W0 hM0 hch hlq hs0 => Ii.start HP9.out.1 HP9.out.2.1 z13 z14 hM0 hch hlq hs0) ?assign ?body
          (fun s A W2 h hb => Ii.out HP9.out.1 hb13 hb14 h hb) (fun _ _ _ _ _ h => h.elim) ?done (fun _ _ h => h.elim)
        case assign =>
          intro mm l x W K hK
          gi_wp2
          exact hK
        case body =>
          rintro mm l s pre x W ⟨kv, vv, es', sv', q', c', kr', vr', hSI, hel', hE, hlq⟩ hnx
          obtain ⟨i0, hi0, hz0, hz1, hz2⟩ := info_parts infoStr
          obtain ⟨j0, hj0, hy0, hy1, hy2⟩ := info_parts infoInt
          have hple : pre.length + 1 ≤ es2.length := by
            have := hnx.length_le
            simp at this
            simp at hpkl2
            omega
          have hk0c := hSI.k.cell
          have hk0f := hSI.k.fro
          obtain ⟨ka, kc, rfl, -⟩ := row_slice hSI.rows.1
          obtain ⟨va, vc, rfl, -⟩ := row_slice hSI.rows.2
          have RR : Hid (SI w9 b13 b14 mb rb w.heap.size sv2 s.1 s.2 pre (.slice ka pre.length kc) (.slice va pre.length vc) es' sv' q' c' kr' vr' W ∧ Env w.heap.size b8 b9 mb rb (.slice a2 p.length cap2) W) := ⟨hSI, hE⟩
          clear hSI hE hnx
          simp only [List.setIfInBounds_toArray, List.set_cons_succ, List.set_cons_zero]
          have bnd : pre.length + 1 ≤ maxLen ∧ (pre.length + 1) * 16 ≤ 140737488355328 ∧ (pre.length + 1) * 8 ≤ 140737488355328 := by unfold maxLen; omega
          have hle0 := RR.out.1.le
          have D0 : Hid (Rd2 W s.1 b13 b14 s.2 1 (.slice ka pre.length kc) (.slice va pre.length vc) (.slice ka pre.length kc) (.slice va pre.length vc) (.slice ka pre.length kc) (.slice va pre.length vc) pre pre W) := RR.out.1.half
          clear hkb HP hR
          gi_wp2_with (first
          | (gi_at_builtin; refine wpListIn_append_own_at _ rfl _ _ 27 rfl s.2 9 i0 (.string ⟨#[]⟩) 1 16 Try.underlying27 hi0 hz0 hz1 hz2 rfl (by decide) _ _ _ rfl (D0.out.kr.alloc _) ⟨W.heap.size, 0, none⟩ 1 1 [.string x.1] rfl rfl (cell_one_new _ _ _) (by simp [Value.oneCell']) bnd.1 bnd.2.1 (by simp; omega) ?_; intro v1 wk hown1 hgrow1 _ hat1; obtain ⟨g1, cap1, rfl⟩ := ownsRow_succ hown1; have D1 : Hid (Rd2 W s.1 b13 b14 s.2 1 (.slice ka pre.length kc) (.slice va pre.length vc) (.slice ka pre.length kc) (.slice va pre.length vc) (.slice (some ⟨g1, 0, none⟩) (pre.length + 1) cap1) (.slice va pre.length vc) (pre ++ [x]) pre wk) := D0.out.appK hown1 hgrow1; have A1 : Hid (∀ g, (Value.slice (some ⟨g1, 0, none⟩) (pre.length + 1) cap1).ownBlock = some g → (Value.slice ka pre.length kc).ownBlock = some g ∨ W.heap.size ≤ g) := at_case hat1 (by simp); have hwz : W.heap.size ≤ wk.heap.size := Nat.le_trans (by simp) hgrow1.size; clear hown1 hgrow1 hat1; have hk2 := D1.out.k.cell; have hk3 := D1.out.k.fro; have D2 : Hid (Rd2 W s.1 b13 b14 s.2 1 (.slice ka pre.length kc) (.slice va pre.length vc) (.slice (some ⟨g1, 0, none⟩) (pre.length + 1) cap1) (.slice va pre.length vc) (.slice (some ⟨g1, 0, none⟩) (pre.length + 1) cap1) (.slice va pre.length vc) (pre ++ [x]) pre (wk.setCell ⟨b13, 0, none⟩ (.slice (some ⟨g1, 0, none⟩) (pre.length + 1) cap1))) := D1.out.stK; have hv2 := D2.out.v.cell; have hle2 := D2.out.le)
          | (gi_at_builtin; refine wpListIn_append_own_at _ rfl _ _ 28 rfl s.2 3 j0 (.int .i64 0) 1 8 Try.underlying28 hj0 hy0 hy1 hy2 rfl (by decide) _ _ _ rfl (D2.out.vr.alloc _) ⟨wk.heap.size, 0, none⟩ 1 1 [.int .i64 x.2] rfl rfl (new_one _ _ (by simp) _ _) (by simp [Value.oneCell']) bnd.1 bnd.2.2 (by simp at hle2 ⊢; omega) ?_; intro v3 wv hown3 hgrow3 _ hat3; obtain ⟨g3, cap3, rfl⟩ := ownsRow_succ hown3; have D3 : Hid (Rd2 W s.1 b13 b14 s.2 1 (.slice ka pre.length kc) (.slice va pre.length vc) (.slice (some ⟨g1, 0, none⟩) (pre.length + 1) cap1) (.slice va pre.length vc) (.slice (some ⟨g1, 0, none⟩) (pre.length + 1) cap1) (.slice (some ⟨g3, 0, none⟩) (pre.length + 1) cap3) (pre ++ [x]) (pre ++ [x]) wv) := D2.out.appV hown3 hgrow3; have A3 : Hid (∀ g, (Value.slice (some ⟨g3, 0, none⟩) (pre.length + 1) cap3).ownBlock = some g → (Value.slice va pre.length vc).ownBlock = some g ∨ W.heap.size ≤ g) := at_case hat3 (by simp; omega); clear hown3 hgrow3 hat3; have hv3 := D3.out.v.cell; have hv4 := D3.out.v.fro; have D4 := D3.out.stV; have S5 : Hid (SI w9 b13 b14 mb rb w.heap.size sv2 s.1 s.2 (pre ++ [x]) (.slice (some ⟨g1, 0, none⟩) (pre.length + 1) cap1) (.slice (some ⟨g3, 0, none⟩) (pre.length + 1) cap3) es' sv' q' c' kr' vr' (wv.setCell ⟨b14, 0, none⟩ (.slice (some ⟨g3, 0, none⟩) (pre.length + 1) cap3)) ∧ KeepsFrom w9.heap.size W (wv.setCell ⟨b14, 0, none⟩ (.slice (some ⟨g3, 0, none⟩) (pre.length + 1) cap3)) ∧ Kq (Xp (w9.heap.size + 2) (cbOf w9 sv2) (s.1, s.2)) W (wv.setCell ⟨b14, 0, none⟩ (.slice (some ⟨g3, 0, none⟩) (pre.length + 1) cap3))) := RR.out.1.app D4 A1.out A3.out; have E5 : Hid (Env w.heap.size b8 b9 mb rb (.slice a2 p.length cap2) (wv.setCell ⟨b14, 0, none⟩ (.slice (some ⟨g3, 0, none⟩) (pre.length + 1) cap3))) := RR.out.2.ry RR.out.1 D4.ch; clear D4 D0 D1 D2 D3 A1 A3))
          exact ⟨S5.out.2.1, S5.out.2.2, _, _, _, _, _, _, _, _, S5.out.1, by simp; omega, E5.out, hlq⟩
        case done =>
          rintro W ⟨kv3, vv3, es3, sv3, q3, kr3, vr3, h13, h14, hK, hP3, hC, hn3⟩ hD
          have K2 := HP9.out.2.2.ch4 HP9.out.1 z13 z14 hC
          rw [HPK.out] at K2
          have hDa : W.heap[w6.heap.size]? = some (.deferred (some [])) := hC.obj hD9 (by rintro (e | e | e | e) <;> omega)
          have c13 := h13.cell
          have c14 := h14.cell
          have GG : Hid (KV W w.heap.size kv3 vv3 (es2.drop (pos es2 k0)) ∧ KV W w.heap.size kw2 vw2 (es2.drop (pos es2 k0)) ∧ Below w.heap.size w W) := ⟨hK, K2, hP3.bl⟩
          clear K2 hK hP3 h13 h14 hC hn3 HP9 z13 z14 hR hkb HP HPK
          gi_wp2_with (first
            | (refine ⟨trivial, ?_⟩; gi_at_call 14; refine (callsIn_wide.2 (alike_any GG.out.1 GG.out.2.1 (most_all _).symm (by omega))).mono ?_; rintro r wz ⟨rfl, Bz⟩))
          have hDz := (Bz.block w9.heap.size (Array.getElem?_eq_some_iff.1 hD).1).trans hD
          have hDza := (World.putObj_heap_other (o := .deferred none) (show w6.heap.size ≠ w9.heap.size by omega)).trans ((Bz.block w6.heap.size (Array.getElem?_eq_some_iff.1 hDa).1).trans hDa)
          have hBz : Below w.heap.size w wz := GG.out.2.2.trans (Bz.mono GG.out.2.2.size)
          refine ⟨by simp, .inl ⟨_, _, rfl, takes hDz, ?_⟩⟩
          refine ⟨by simp, .inl ⟨_, _, rfl, takes hDza, ?_⟩⟩
          exact ⟨_, results_tmp rfl _ _ _, rfl, below_take (below_take hBz (Nat.le_refl _) (by omega) _) (Nat.le_refl _) (by omega) _⟩

set_option maxRecDepth 100000 in
theorem lifted (os : Os) (started : os.Started) (H : Type) (enc : TypeId × Value → H) :
    ReturnsInHanded {} Try.checked os 4 .any (Rows.sortedStaysSpec.pre6 enc Try.prog Try.f4 Rows.sortedStaysRow.domain false) (Rows.sortedStaysSpec.post enc Try.prog Try.f4 false true false false) := by
  refine returnsInHanded_of_change_sized (C := Try.checked) own started (by kernel_rfl) Try.func4
    (ChangeSpec.witness6 (enc := enc) (C := Try.checked) false ⟨#[], #[.slice none 0 0, .slice none 0 0, .string .empty], []⟩ 8 (by kernel_rfl) (by kernel_rfl) (by kernel_rfl) (by kernel_rfl)) ?_
  intro W base args ds gs before hval0 hW hcnd hsz0 _
  have hval : ∀ (j : Nat) t v, Try.f4.params[j]? = some t → args[j]? = some v → Value.okWide Try.prog W .any base t v := hval0
  have hsz : (DataW.weightsEach Try.prog (Try.f4.params.toList ++ Rows.sortedStaysSpec.plain.varTypes Try.prog) (ds ++ gs)).all (· ≤ reachBytes) = true := hsz0
  have hW' := hW
  obtain ⟨p, q, hA0, hV, rfl, hfz, hnd⟩ := hW
  have hA : DataW.TrodAll enc Try.prog W 0 (fun _ => true) true Try.f4.params.toList args.toList ds p := hA0
  rw [Try.params4] at hA hval hsz
  obtain ⟨v0, vs0, d0, ds0, p0, q0, hargs, rfl, rfl, h0, r0⟩ := trodAll_cons hA
  obtain ⟨v1, vs1, d1, ds1, p1, q1, rfl, rfl, rfl, h1, r1⟩ := trodAll_cons r0
  obtain ⟨v2, vs2, d2, ds2, p2, q2, rfl, rfl, rfl, h2, r2⟩ := trodAll_cons r1
  obtain ⟨rfl, rfl, rfl⟩ := trodAll_nil r2
  obtain rfl : args = #[v0, v1, v2] := by cases args; simp_all
  obtain ⟨rfl, rfl⟩ := trodVars_none hV
  obtain ⟨a2, rfl, rfl, rfl, w2⟩ := open_string Try.underlying9 (hval 2 9 v2 rfl rfl) h2
  have k0 := h0
  have k1 := h1
  have lt0 : ∀ x ∈ p0, x.block < W.heap.size := by obtain ⟨m, hm⟩ := k0; exact DataW.trod_lt m _ _ _ hm
  have lt1 : ∀ x ∈ p1, x.block < W.heap.size := by obtain ⟨m, hm⟩ := k1; exact DataW.trod_lt m _ _ _ hm
  obtain ⟨qs, hqs, hq⟩ := openActs (hval 0 22 v0 rfl rfl) h0
  obtain ⟨ps, hps, hp⟩ := openActs (hval 1 22 v1 rfl rfl) h1
  have hsz2 := hsz
  simp only [List.cons_append, DataW.weightsEach, List.all_append, Bool.and_eq_true] at hsz2
  obtain ⟨hql, hqk⟩ := hq hsz2.1
  obtain ⟨hpl, hpk⟩ := hp hsz2.2.1
  have hk0 : a2.size < 4611686018427387904 := by
    have h := hsz2.2.2.1
    have e : a2.data.toList.length = a2.size := by simp
    have hr : reachBytes = 140737488351232 := rfl
    simp [DataW.weights, hr] at h
    omega
  clear hA0 hval0
  refine (walk v0 v1 qs ps a2 hk0 hql hqk hpl hpk W hqs hps).mono fun e W' ⟨he, bel⟩ => ?_
  subst he
  exact ⟨_, rfl, _, _, _, [], _, [], hW', trodAll_mk1 (shut_bool Try.underlying4 _), (trodAll_cons_mk (Below.trod laidOut (by kernel_rfl) (of_decide_eq_true (by kernel_rfl)) k0 bel lt0) (trodAll_cons_mk (Below.trod laidOut (by kernel_rfl) (of_decide_eq_true (by kernel_rfl)) k1 bel lt1) (trodAll_cons_mk (shut_string Try.underlying9 w2) trodAll_mk0))), rfl, bel.frame _, fun h => by cases h⟩

theorem proved : Rows.SortedStaysSaid :=
  OpenClaim.holds_of_wide 4 Try.f4 rfl rfl rfl rfl rfl rfl rfl ⟨rfl, rfl, rfl, rfl, rfl⟩ rfl rfl rfl rfl rfl (by kernel_rfl) Try.func4 (by kernel_rfl)
    (of_decide_eq_true (by kernel_rfl)) (by unfold Func.isWrapper; first | (rw [if_pos (by decide +kernel)]; kernel_rfl) | (rw [if_neg (by decide +kernel)]; exact ⟨rfl, rfl⟩))
    (fun os started H enc _ => lifted os started H enc)
end Go.Proofs.Ytkohcdefhaokiaa.sortedStays

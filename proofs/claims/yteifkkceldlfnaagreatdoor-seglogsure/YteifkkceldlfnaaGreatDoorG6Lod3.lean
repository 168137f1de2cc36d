/-
  Package seglog's load: its walk.
-/
import Derived.OwnWalk
import Derived.Test.YteifkkceldlfnaaGreatDoorG6Lod2
namespace Go.Proofs.YteifkkceldlfnaaGreatDoor
open Go.RowKit Go.Shelf Go.Sort
open Go.Lib hiding intOf

theorem flw_nil {tn : Bool} {n : Nat} : flw [] tn n = true := rfl
theorem flw_last {ws : List Sv} {u : Sv} {tn : Bool} {n : Nat} : flw ((ws ++ [u]).map Sv.sg) tn n = (!tn && (n == u.sg.next)) := by
  unfold flw
  simp
theorem Lp.before {w wr : World} {pre : ByteArray} {st : Ab} {vs ws : List Sv} {g c : Nat} {tn : Bool} (h : Lp w wr pre st vs ws (.slice (some ⟨g, 0, none⟩) vs.length c) tn) (n : Nat) :
    (ws.length = 0 ∧ flw (ws.map Sv.sg) tn n = true) ∨ ∃ (j : Nat) (u : Sv), ws.length = j + 1 ∧ flw (ws.map Sv.sg) tn n = (!tn && (n == u.sg.next)) ∧ wr.cell? ⟨g, j, none⟩ = some (.pointer (some ⟨u.g, 0, none⟩)) ∧ ∀ q, Calls Tryz.prog 34 #[.pointer (some ⟨u.g, 0, none⟩)] (wr.drewN q) fun e w' => e = .returned (.int .u64 (u.sg.next : Int)) ∧ ∃ q2, w' = (wr.drewN q).drewN q2 := by
  rcases List.eq_nil_or_concat ws with rfl | ⟨ws0, u, rfl⟩
  · exact .inl ⟨rfl, rfl⟩
  · right
    rw [List.concat_eq_append] at h ⊢
    have hu : u ∈ ws0 ++ [u] := by simp
    have hle := h.1.le
    simp only [List.length_append, List.length_singleton] at hle
    refine ⟨ws0.length, u, by simp, flw_last, ?_, fun q => next_any ((h.1.sw u hu).drewN q) (by have := h.2.2 u hu; omega)⟩
    have h1 := (h.1.same ws0.length (by simp)).1
    have e2 : (ws0 ++ [u])[ws0.length]'(by simp) = u := by simp
    rw [e2] at h1
    have h2 := row_cell (j := ws0.length) (v := ptr (vs[ws0.length]'(by omega))) h.1.row (by rw [List.getElem?_map, List.getElem?_eq_getElem (l := vs) (i := ws0.length) (by omega)]; rfl)
    unfold ptr at h2
    rw [← h1] at h2
    exact h2
set_option maxHeartbeats 4000000 in
set_option maxRecDepth 100000 in
theorem load_any {w : World} {B d : Nat} {st : Ab} (h : St w B d st) (hoff : st.2.2 = false) (pre : ByteArray) (hp : pre.size ≤ 8) (hv : Gv B w) (he : Ev B w) (hB : B ≤ w.heap.size) :
    Calls Tryz.prog 30 #[.pointer (some ⟨d, 0, none⟩), .string pre] w fun e w' => LodR w pre st e w' ∧ Below w.heap.size w w' := by
  obtain ⟨f1, f2, f3, f4⟩ := h.facts
  have hN := named_any h pre hp hv he hB f2 (fun k hk => by have := f3 k hk; omega) (by omega)
  have HS : Hid (St w B d st) := h
  clear h hv he f2 f3
  go_enter Tryz.func30, Tryz.ntmps30
  go_wp2_with (go_at_call 68; refine hN.mono ?_; rintro e w1 ⟨⟨vs, sl, rfl, q1, q2, q3, q4, q5, q6⟩, b1⟩; obtain ⟨a, c, rfl, -⟩ := row_slice q1; (have H1 : Hid (Lp w w1 pre st vs [] (.slice a vs.length c) false) := ⟨⟨q1, Nat.zero_le _, fun j hj => absurd hj (Nat.not_lt_zero _), fun v hv => absurd hv List.not_mem_nil, fun v hv => q2 v hv, List.Pairwise.nil, b1⟩, rfl, fun v hv => absurd hv List.not_mem_nil⟩); have HP : Hid (vs.Pairwise (fun a b => a.g ≠ b.g) ∧ PsOf pre (st.1.map (·.1)) (vs.map fun v => v.sg.first)) := ⟨q3, psOf q4 q5⟩; (have hvl : vs.length ≤ 256 := by (rw [List.length_map] at q6; omega)); clear q1 q2 q3 q4 q5 q6 b1)
  clear hN
  go_loopw [8, 19] (fun vt vi wr => ∃ (ws : List Sv) (tn : Bool), vt = .bool tn ∧ vi = .int .i64 (ws.length : Int) ∧ Hid (Lp w wr pre st vs ws (.slice a vs.length c) tn)) (fun _ vi _ => vs.length - (intOf vi).toNat)
  case atStart => exact ⟨[], false, rfl, rfl, H1⟩
  case round =>
    obtain ⟨ws, tn, rfl, rfl, HL⟩ := hrel
    clear H1
    have hwl := HL.out.1.le
    by_cases hil : ws.length < vs.length
    · obtain ⟨g, rfl⟩ : ∃ g, a = some ⟨g, 0, none⟩ := by
        rcases HL.out.1.row.2 with ⟨e, h0⟩ | ⟨g', cap', cur, e, -⟩
        · omega
        · cases e; exact ⟨g', rfl⟩
      have m0 : wr.cell? ⟨g, ws.length, none⟩ = some (.pointer (some ⟨vs[ws.length].g, 0, none⟩)) := row_cell (v := ptr vs[ws.length]) HL.out.1.row (by simp [hil])
      have hn := HL.out.1.nw vs[ws.length] (by rw [List.drop_eq_getElem_cons hil]; exact List.mem_cons_self ..)
      have hhd := hn.hd
      unfold segC at hhd
      obtain ⟨k1, k2, k3⟩ := (HP.out.2.iff vs[ws.length].sg.first).1 (List.mem_map.2 ⟨_, List.getElem_mem hil, rfl⟩)
      have s0 : wr.cell? ⟨vs[ws.length].g, 0, none⟩ = some (.string (nam pre vs[ws.length].sg.first)) := by simp [World.cell?, hhd]
      have s1 : wr.cell? ⟨vs[ws.length].g, 1, none⟩ = some (.int .u64 (vs[ws.length].sg.first : Int)) := by simp [World.cell?, hhd]
      have hSt := HS.out.below HL.out.1.bw
      have hR := sRead hSt (nam pre vs[ws.length].sg.first) (by have := nam_size pre vs[ws.length].sg.first hp (by omega); omega)
      rw [read_at6 HS.out hoff k3] at hR
      have hz4 : (flB st pre vs[ws.length].sg.first).length ≤ 1048576 := by
        have := f4 _ k3
        unfold flB
        simpa using this
      have HF : Hid (∀ W, Below wr.heap.size wr W → Calls Tryz.prog 69 #[.pointer (some ⟨vs[ws.length].g, 0, none⟩), .string (S (flB st pre vs[ws.length].sg.first))] W fun e w' => FilR W w.heap.size pre vs[ws.length].sg.first vs[ws.length].g (flB st pre vs[ws.length].sg.first) e w' ∧ Ch (fun k => k = vs[ws.length].g) W w') := fun W hb => by
        have hn' := hn.ch (Y := fun _ => False) (show Ch (fun _ => False) wr W from Ch.of_below hb) id
        have h1 := hn'.hd
        unfold segC at h1
        exact fill_any _ hz4 ⟨h1, World.ownsRow_nil _ _ _ _, hn.lo⟩ (by have := HL.out.1.bw.size; have := hb.size; omega) k2
      have HT : Hid (flw (ws.map Sv.sg) tn vs[ws.length].sg.first = true → ∀ W, Below wr.heap.size wr W → ∀ w3 recs rv, filS vs[ws.length].sg.first (fra (flB st pre vs[ws.length].sg.first)) = some recs → Sw w3 w.heap.size pre ⟨⟨vs[ws.length].sg.first, recs, god (fra (flB st pre vs[ws.length].sg.first))⟩, vs[ws.length].g, rv⟩ → (∀ x, rv.ownBlock = some x → W.heap.size ≤ x) → Ch (fun k => k = vs[ws.length].g) W w3 → ∃ ws', ws'.length = ws.length + 1 ∧ Lp w w3 pre st vs ws' (.slice (some ⟨g, 0, none⟩) vs.length c) (decide (god (fra (flB st pre vs[ws.length].sg.first)) < (flB st pre vs[ws.length].sg.first).length))) := fun hf W hb w3 recs rv a1 a2 a3 a4 => ⟨_, by simp, (HL.out.below hb).fill hil HP.out.1 hf k2 a1 a4 a2 a3⟩
      have HX : Hid ((flw (ws.map Sv.sg) tn vs[ws.length].sg.first = false ∨ filS vs[ws.length].sg.first (fra (flB st pre vs[ws.length].sg.first)) = none) → ∀ W w3, Below wr.heap.size wr W → Ch (fun k => k = vs[ws.length].g) W w3 → LodR w pre st (.returned (.tuple #[.slice none 0 0, .bool false, .int .i64 3])) w3 ∧ Below w.heap.size w w3) := fun hf W w3 hb hc => ⟨HL.out.bad hil HP.out.2 hf w3, (HL.out.1.bw.trans (hb.mono HL.out.1.bw.size)).trans (hc.below (by have := HL.out.1.bw.size; have := hb.size; omega) (fun k hk e => by have := hn.lo; omega))⟩
      have hgl := god_le _ (flB st pre vs[ws.length].sg.first) (Nat.le_refl _)
      have hcase := HL.out.before vs[ws.length].sg.first
      clear hSt hhd k1 k2 k3 hn HL
      generalize vs[ws.length].g = sgb at *
      generalize vs[ws.length].sg.first = n at *
      generalize flB st pre n = l at *
      generalize flw (ws.map Sv.sg) tn n = fl at *
      generalize ws.length = i at *
      have hil' : (i : Int) < (vs.length : Int) := by omega
      have hi0' : (0 : Int) ≤ (i : Int) := by omega
      have HGL : Hid (god (fra l) ≤ l.length) := hgl
      clear hgl
      rcases hcase with ⟨rfl, rfl⟩ | ⟨j, u, hij, hfl, m1, cN⟩
      · have HT2 : Hid _ := HT.out rfl
        clear HT
        go_wp2_with (go_at_call 45; refine hR.mono ?_; rintro e w2 ⟨rfl, rfl⟩)
        go_quiet (fail)
        go_wp2_with fail
        refine (HF.out _ (below_drewN' (Below.refl _ w2) _)).mono ?_
        rintro e w3 ⟨⟨recs, rv, y1, rfl, y2, y3⟩ | ⟨y1, rfl⟩, c3⟩
        · obtain ⟨ws', hw', L'⟩ := HT2.out _ (below_drewN' (Below.refl _ w2) _) w3 recs rv y1 y2 y3 c3
          have z2 := y2.c2
          simp only at z2
          have HL3 : Hid _ := L'
          clear y1 y2 y3 c3 L' HT2 HX HF
          generalize god (fra l) = gd at *
          go_wp2
          go_roundw
          case rel => exact ⟨ws', _, by simp [S, ByteArray.size], by rw [hw']; simp, HL3⟩
          case measure =>
            simp [intOf]
            omega
        · have HE : Hid _ := HX.out (.inr y1) _ w3 (below_drewN' (Below.refl _ w2) _) c3
          clear y1 c3 HT2 HX HF
          go_wp2
          go_ret3
          exact HE.out
      · generalize u.g = ug at *
        generalize u.sg.next = nx at *
        have h0 : ((i : Int) == 0) = false := by simp; omega
        have h0' : decide ((i : Int) = 0) = false := by simp; omega
        have h1 : (i : Int) - 1 = (j : Int) := by omega
        have h2 : (j : Int) < (vs.length : Int) := by omega
        have h3 : (0 : Int) ≤ (j : Int) := by omega
        have HI : Hid (i = j + 1) := hij
        clear hij
        cases tn with
        | true =>
          obtain rfl : fl = false := by rw [hfl]; rfl
          clear HT HF hfl
          go_wp2_with (go_at_call 45; refine hR.mono ?_; rintro e w2 ⟨rfl, rfl⟩)
          go_quiet (fail)
          go_wp2
          go_ret3
          exact HX.out (.inl (by simp)) _ _ (Below.refl _ w2) (Ch.of_below (below_drewN' (Below.refl _ w2) _))
        | false =>
          by_cases hnx : n = nx
          · obtain rfl : fl = true := by rw [hfl, hnx]; simp
            have HT2 : Hid _ := HT.out rfl
            clear HT hfl
            subst hnx
            go_wp2_with (go_at_call 45; refine hR.mono ?_; rintro e w2 ⟨rfl, rfl⟩)
            go_quiet ((go_at_call 34; refine Calls.quiet_of (cN _)))
            go_wp2_with fail
            refine (HF.out _ (below_drewN' (Below.refl _ w2) _)).mono ?_
            rintro e w3 ⟨⟨recs, rv, y1, rfl, y2, y3⟩ | ⟨y1, rfl⟩, c3⟩
            · obtain ⟨ws', hw', L'⟩ := HT2.out _ (below_drewN' (Below.refl _ w2) _) w3 recs rv y1 y2 y3 c3
              have z2 := y2.c2
              simp only at z2
              have HL3 : Hid _ := L'
              clear y1 y2 y3 c3 L' HT2 HX HF
              generalize god (fra l) = gd at *
              go_wp2
              go_roundw
              case rel => exact ⟨ws', _, by simp [S, ByteArray.size], by rw [hw']; simp, HL3⟩
              case measure =>
                simp [intOf]
                omega
            · have HE : Hid _ := HX.out (.inr y1) _ w3 (below_drewN' (Below.refl _ w2) _) c3
              clear y1 c3 HT2 HX HF
              go_wp2
              go_ret3
              exact HE.out
          · obtain rfl : fl = false := by rw [hfl]; simp [hnx]
            have hnx' : ((n : Int) == (nx : Int)) = false := by simp; omega
            have hnx2 : decide ((n : Int) = (nx : Int)) = false := by simp; omega
            clear hnx
            clear HT HF hfl
            go_wp2_with (go_at_call 45; refine hR.mono ?_; rintro e w2 ⟨rfl, rfl⟩)
            go_quiet ((go_at_call 34; refine Calls.quiet_of (cN _)))
            go_wp2
            go_ret3
            exact HX.out (.inl (by simp)) _ _ (Below.refl _ w2) (Ch.of_below (below_drewN' (Below.refl _ w2) _))
    · have hil' : ¬ (ws.length : Int) < (vs.length : Int) := by omega
      have HE : Hid _ := And.intro (HL.out.done hil HP.out.2) HL.out.1.bw
      go_wp2
      go_ret3
      exact HE.out
end Go.Proofs.YteifkkceldlfnaaGreatDoor

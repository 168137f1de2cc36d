/-
  The document's map: Range.
-/
import Derived.Test.YtkohcdefhaokiabSAlike
namespace Go.Proofs.Ytkohcdefhaokiab
open Go.RowKit Go.Shelf Go.Lib Go.Sort

/-- is this one told? -/
def sel (kind : Int) (k : ByteArray) (e : Ent) : Bool := !((kind == 2 && lt e.1 k) || (kind == 4 && !bg e.1 k))

theorem kcells_snoc (l : List Ent) (e : Ent) : kcells (l ++ [e]) = kcells l ++ [.string e.1] := by simp [kcells]
theorem vcells_snoc (l : List Ent) (e : Ent) : vcells (l ++ [e]) = vcells l ++ [.int .i64 e.2] := by simp [vcells]

/-- keys and values that are told, so far -/
structure Nx (w : World) (kx vx : Value) (pk pv : List Ent) (W : World) : Prop where
  k : W.ownsRow w.heap.size 9 1 kx pk.length (kcells pk)
  v : W.ownsRow w.heap.size 3 1 vx pv.length (vcells pv)
  b : Below w.heap.size w W
theorem Nx.start (w : World) : Nx w (.slice none 0 0) (.slice none 0 0) [] [] w := ⟨World.ownsRow_nil _ _ _ _, World.ownsRow_nil _ _ _ _, Below.refl _ _⟩
theorem Nx.alloc {w : World} {kx vx : Value} {pk pv : List Ent} {W : World} (h : Nx w kx vx pk pv W) (o : Obj) : Nx w kx vx pk pv (W.alloc o) := ⟨h.k.alloc o, h.v.alloc o, h.b.alloc h.b.size o⟩
theorem Nx.nw {w : World} {kx vx : Value} {pk pv : List Ent} {W : World} (h : Nx w kx vx pk pv W) : Nw w kx vx (kcells pk) (vcells pv) W :=
  ⟨by have := h.k; rwa [show pk.length = (kcells pk).length by simp [kcells]] at this, by have := h.v; rwa [show pv.length = (vcells pv).length by simp [vcells]] at this, h.b⟩
theorem Nx.of_nw {w : World} {kx vx : Value} {pk pv : List Ent} {W : World} (h : Nw w kx vx (kcells pk) (vcells pv) W) : Nx w kx vx pk pv W :=
  ⟨by have := h.k; rwa [show (kcells pk).length = pk.length by simp [kcells]] at this, by have := h.v; rwa [show (vcells pv).length = pv.length by simp [vcells]] at this, h.b⟩
theorem Nx.appK {w : World} {kx vx v1 : Value} {pk pv : List Ent} {W w1 : World} (x : Ent) (h : Nx w kx vx pk pv W) (hown : w1.ownsRow w.heap.size 9 1 v1 (pk.length + 1) (kcells pk ++ [.string x.1])) (hg : W.grownBy w1 kx.ownBlock) : Nx w v1 vx (pk ++ [x]) pv w1 :=
  Nx.of_nw (by rw [kcells_snoc]; exact h.nw.appK (n := 1) (by rwa [show (kcells pk).length = pk.length by simp [kcells]]) hg rfl)
theorem Nx.appV {w : World} {kx vx v1 : Value} {pk pv : List Ent} {W w1 : World} (x : Ent) (h : Nx w kx vx pk pv W) (hown : w1.ownsRow w.heap.size 3 1 v1 (pv.length + 1) (vcells pv ++ [.int .i64 x.2])) (hg : W.grownBy w1 vx.ownBlock) : Nx w kx v1 pk (pv ++ [x]) w1 :=
  Nx.of_nw (by rw [vcells_snoc]; exact h.nw.appV (n := 1) (by rwa [show (vcells pv).length = pv.length by simp [vcells]]) hg rfl)
theorem Nx.below {w : World} {kx vx : Value} {pk pv : List Ent} {W W' : World} (h : Nx w kx vx pk pv W) (hb : Below W.heap.size W W') : Nx w kx vx pk pv W' :=
  have hc : Ch (fun _ => False) W W' := Ch.of_below hb
  ⟨hc.row h.k (fun _ _ => id), hc.row h.v (fun _ _ => id), h.b.trans (hb.mono h.b.size)⟩

theorem told_step {kind : Int} {k : ByteArray} {l : List Ent} {i : Nat} {e : Ent} (h : l[i]? = some e) :
    (sel kind k e = true → (l.take (i + 1)).filter (sel kind k) = (l.take i).filter (sel kind k) ++ [e]) ∧ (sel kind k e = false → (l.take (i + 1)).filter (sel kind k) = (l.take i).filter (sel kind k)) := by
  obtain ⟨hi, rfl⟩ := List.getElem?_eq_some_iff.1 h
  rw [List.take_succ_eq_append_getElem hi, List.filter_append]
  constructor <;> intro hs <;> simp [hs]

/-- the cells of the entry at a place -/
theorem rf_at {w W : World} {rb base : Nat} {es : List Ent} {ka va : Option Addr} {kc vc : Nat} (h : Rf w rb base es (.slice ka es.length kc) (.slice va es.length vc)) (hB : Below w.heap.size w W) {j : Nat} {e : Ent} (hj : es[j]? = some e) :
    ∃ g g' : Nat, ka = some ⟨g, 0, none⟩ ∧ va = some ⟨g', 0, none⟩ ∧ W.cell? ⟨rb, 0, none⟩ = some (.slice ka es.length kc) ∧ W.cell? ⟨rb, 1, none⟩ = some (.slice va es.length vc) ∧ W.cell? ⟨g, j, none⟩ = some (.string e.1) ∧ W.cell? ⟨g', j, none⟩ = some (.int .i64 e.2) := by
  obtain ⟨hi, rfl⟩ := List.getElem?_eq_some_iff.1 hj
  have hR := h.below hB
  have h0 := hR.cell0
  have h1 := hR.cell1
  rcases hR.kv.1.2 with ⟨hx, h00⟩ | ⟨g, cap, cur, hx, -⟩
  · omega
  cases hx
  rcases hR.kv.2.2 with ⟨hx, h00⟩ | ⟨g', cap', cur', hx, -⟩
  · omega
  cases hx
  exact ⟨g, g', rfl, rfl, h0, h1, row_cell hR.kv.1 (kcells_get hi), row_cell hR.kv.2 (vcells_get hi)⟩

set_option maxHeartbeats 4000000 in
theorem rRange_up {w : World} {rb base : Nat} {es : List Ent} {kv vv : Value} (h : Rf w rb base es kv vv) (hsh : Short es) (kind : Int) (hkind : kind = 1 ∨ kind = 2 ∨ kind = 4) (k : ByteArray) (hk : k.size < 4611686018427387904) (hn : es.length * 24 ≤ 211106232528000) :
    Calls Try.prog 16 #[.pointer (some ⟨rb, 0, none⟩), .int .i64 kind, .string k] w fun e w' => ∃ kv' vv', e = .returned (.tuple #[kv', vv']) ∧ KV w' w.heap.size kv' vv' (es.filter (sel kind k)) ∧ Below w.heap.size w w' := by
  obtain ⟨i0, hi0, hz0, hz1, hz2⟩ := info_parts infoStr
  obtain ⟨j0, hj0, hy0, hy1, hy2⟩ := info_parts infoInt
  obtain ⟨ka, kc, rfl, -⟩ := row_slice h.kv.1
  obtain ⟨va, vc, rfl, -⟩ := row_slice h.kv.2
  have H : Hid (Rf w rb base es (.slice ka es.length kc) (.slice va es.length vc) ∧ Short es) := ⟨h, hsh⟩
  have e0 := h.cell0
  clear h hsh
  go_enter Try.func16, Try.ntmps16
  go_wp2
  clear e0
  go_loopw [8, 9, 11] (fun vk vx vi wr => ∃ (i : Nat) (pre : List Ent), vi = .int .i64 i ∧ i ≤ es.length ∧ Hid (pre = (es.take i).filter (sel kind k)) ∧ Nx w vk vx pre pre wr) (fun _ _ vi _ => es.length - (intOf vi).toNat)
  case atStart => exact ⟨0, [], rfl, Nat.zero_le _, by show _ = _; simp, Nx.start w⟩
  case round =>
    obtain ⟨i, pre, rfl, hi, hpre, N0⟩ := hrel
    obtain ⟨a1, d1, rfl, -⟩ := row_slice N0.k
    obtain ⟨a2, d2, rfl, -⟩ := row_slice N0.v
    by_cases hl : i < es.length
    · have hli : (i : Int) < (es.length : Int) := by omega
      have hpl : pre.length ≤ i := by rw [hpre.out]; exact Nat.le_trans (List.length_filter_le ..) (by rw [List.length_take]; omega)
      obtain ⟨⟨y, z⟩, hyz⟩ : ∃ e, es[i]? = some e := ⟨_, List.getElem?_eq_getElem (by omega)⟩
      have ST : Hid ((sel kind k (y, z) = true → (es.take (i + 1)).filter (sel kind k) = pre ++ [(y, z)]) ∧ (sel kind k (y, z) = false → (es.take (i + 1)).filter (sel kind k) = pre)) := by rw [hpre.out]; exact told_step hyz
      obtain ⟨g, g', rfl, rfl, h0, h1, h2, h3⟩ := rf_at H.out.1 N0.b hyz
      have C : Hid (∀ W, Below w.heap.size w W → W.cell? ⟨rb, 0, none⟩ = some (.slice (some ⟨g, 0, none⟩) es.length kc) ∧ W.cell? ⟨rb, 1, none⟩ = some (.slice (some ⟨g', 0, none⟩) es.length vc) ∧ W.cell? ⟨g, i, none⟩ = some (.string y) ∧ W.cell? ⟨g', i, none⟩ = some (.int .i64 z)) := fun W hW => by
        obtain ⟨x, x', e1, e2, q0, q1, q2, q3⟩ := rf_at H.out.1 hW hyz
        cases e1; cases e2
        exact ⟨q0, q1, q2, q3⟩
      have hL := Less_any y k (H.out.2 _ (List.mem_of_getElem? hyz)) hk wr
      have hBg := Begins_any y k
      have N : Hid _ := N0
      clear N0 H hyz hpre
      rcases hkind with rfl | rfl | rfl
      · go_wp2_with (first
          | (go_at_call 27; refine hL.mono ?_; rintro e w2 ⟨rfl, hB2⟩; have N2 : Hid (Nx w (.slice a1 pre.length d1) (.slice a2 pre.length d2) pre pre w2) := N.out.below hB2; have N2b := N2.out.b; clear h0 h1 h2 h3; obtain ⟨f0, f1, f2, f3⟩ := C.out _ N2b)
          | (go_at_call 28; refine (hBg _).mono ?_; rintro e w3 ⟨rfl, rfl⟩)
          | (at_builtin; refine wpList_append_own _ rfl _ _ 27 rfl w.heap.size 9 i0 _ 1 16 Try.underlying27 hi0 hz0 hz1 hz2 rfl (by decide) _ pre.length (kcells pre) rfl (N2.out.alloc _).k ⟨w3.heap.size, 0, none⟩ 1 1 [.string y] rfl rfl (new_one _ _ rfl _ _) (by simp [Value.oneCell']) (by unfold maxLen; omega) (by omega) ((N2.out.alloc _).b.size) ?_; intro v5 w5 ho5 hg5 hn5; clear hn5; have ho5' := ho5; obtain ⟨a5, c5, rfl, -⟩ := row_slice ho5'; have N4 : Hid (Nx w (.slice a5 (pre.length + 1) c5) (.slice a2 pre.length d2) (pre ++ [(y, z)]) pre w5) := (N2.out.alloc _).appK (y, z) ho5 hg5; have N4b := N4.out.b; clear ho5 hg5 ho5' f0 f1 f2 f3; obtain ⟨f0, f1, f2, f3⟩ := C.out _ N4b)
          | (at_builtin; refine wpList_append_own _ rfl _ _ 28 rfl w.heap.size 3 j0 _ 1 8 Try.underlying28 hj0 hy0 hy1 hy2 rfl (by decide) _ pre.length (vcells pre) rfl (N4.out.alloc _).v ⟨w5.heap.size, 0, none⟩ 1 1 [.int .i64 z] rfl rfl (new_one _ _ rfl _ _) (by simp [Value.oneCell']) (by unfold maxLen; omega) (by omega) ((N4.out.alloc _).b.size) ?_; intro v6 w6 ho6 hg6 hn6; clear hn6; have ho6' := ho6; obtain ⟨a6, c6, rfl, -⟩ := row_slice ho6'; have N5 : Hid (Nx w (.slice a5 (pre.length + 1) c5) (.slice a6 (pre.length + 1) c6) (pre ++ [(y, z)]) (pre ++ [(y, z)]) w6) := (N4.out.alloc _).appV (y, z) ho6 hg6; clear ho6 hg6 ho6'))
        go_roundw
        case rel => exact ⟨i + 1, _, by simp, by omega, (ST.out.1 (by simp [sel])).symm, N5.out⟩
        case measure => simp [intOf]; omega
      · cases hlt : lt y k with
        | true =>
          rw [hlt] at hL
          go_wp2_with (first
            | (go_at_call 27; refine hL.mono ?_; rintro e w2 ⟨rfl, hB2⟩; have N2 : Hid (Nx w (.slice a1 pre.length d1) (.slice a2 pre.length d2) pre pre w2) := N.out.below hB2; have N2b := N2.out.b; clear h0 h1 h2 h3; obtain ⟨f0, f1, f2, f3⟩ := C.out _ N2b)
            | (go_at_call 28; refine (hBg _).mono ?_; rintro e w3 ⟨rfl, rfl⟩)
            | (at_builtin; refine wpList_append_own _ rfl _ _ 27 rfl w.heap.size 9 i0 _ 1 16 Try.underlying27 hi0 hz0 hz1 hz2 rfl (by decide) _ pre.length (kcells pre) rfl (N2.out.alloc _).k ⟨w3.heap.size, 0, none⟩ 1 1 [.string y] rfl rfl (new_one _ _ rfl _ _) (by simp [Value.oneCell']) (by unfold maxLen; omega) (by omega) ((N2.out.alloc _).b.size) ?_; intro v5 w5 ho5 hg5 hn5; clear hn5; have ho5' := ho5; obtain ⟨a5, c5, rfl, -⟩ := row_slice ho5'; have N4 : Hid (Nx w (.slice a5 (pre.length + 1) c5) (.slice a2 pre.length d2) (pre ++ [(y, z)]) pre w5) := (N2.out.alloc _).appK (y, z) ho5 hg5; have N4b := N4.out.b; clear ho5 hg5 ho5' f0 f1 f2 f3; obtain ⟨f0, f1, f2, f3⟩ := C.out _ N4b)
            | (at_builtin; refine wpList_append_own _ rfl _ _ 28 rfl w.heap.size 3 j0 _ 1 8 Try.underlying28 hj0 hy0 hy1 hy2 rfl (by decide) _ pre.length (vcells pre) rfl (N4.out.alloc _).v ⟨w5.heap.size, 0, none⟩ 1 1 [.int .i64 z] rfl rfl (new_one _ _ rfl _ _) (by simp [Value.oneCell']) (by unfold maxLen; omega) (by omega) ((N4.out.alloc _).b.size) ?_; intro v6 w6 ho6 hg6 hn6; clear hn6; have ho6' := ho6; obtain ⟨a6, c6, rfl, -⟩ := row_slice ho6'; have N5 : Hid (Nx w (.slice a5 (pre.length + 1) c5) (.slice a6 (pre.length + 1) c6) (pre ++ [(y, z)]) (pre ++ [(y, z)]) w6) := (N4.out.alloc _).appV (y, z) ho6 hg6; clear ho6 hg6 ho6'))
          go_roundw
          case rel => exact ⟨i + 1, _, by simp, by omega, (ST.out.2 (by simp [sel, hlt])).symm, N2.out⟩
          case measure => simp [intOf]; omega
        | false =>
          rw [hlt] at hL
          go_wp2_with (first
            | (go_at_call 27; refine hL.mono ?_; rintro e w2 ⟨rfl, hB2⟩; have N2 : Hid (Nx w (.slice a1 pre.length d1) (.slice a2 pre.length d2) pre pre w2) := N.out.below hB2; have N2b := N2.out.b; clear h0 h1 h2 h3; obtain ⟨f0, f1, f2, f3⟩ := C.out _ N2b)
            | (go_at_call 28; refine (hBg _).mono ?_; rintro e w3 ⟨rfl, rfl⟩)
            | (at_builtin; refine wpList_append_own _ rfl _ _ 27 rfl w.heap.size 9 i0 _ 1 16 Try.underlying27 hi0 hz0 hz1 hz2 rfl (by decide) _ pre.length (kcells pre) rfl (N2.out.alloc _).k ⟨w3.heap.size, 0, none⟩ 1 1 [.string y] rfl rfl (new_one _ _ rfl _ _) (by simp [Value.oneCell']) (by unfold maxLen; omega) (by omega) ((N2.out.alloc _).b.size) ?_; intro v5 w5 ho5 hg5 hn5; clear hn5; have ho5' := ho5; obtain ⟨a5, c5, rfl, -⟩ := row_slice ho5'; have N4 : Hid (Nx w (.slice a5 (pre.length + 1) c5) (.slice a2 pre.length d2) (pre ++ [(y, z)]) pre w5) := (N2.out.alloc _).appK (y, z) ho5 hg5; have N4b := N4.out.b; clear ho5 hg5 ho5' f0 f1 f2 f3; obtain ⟨f0, f1, f2, f3⟩ := C.out _ N4b)
            | (at_builtin; refine wpList_append_own _ rfl _ _ 28 rfl w.heap.size 3 j0 _ 1 8 Try.underlying28 hj0 hy0 hy1 hy2 rfl (by decide) _ pre.length (vcells pre) rfl (N4.out.alloc _).v ⟨w5.heap.size, 0, none⟩ 1 1 [.int .i64 z] rfl rfl (new_one _ _ rfl _ _) (by simp [Value.oneCell']) (by unfold maxLen; omega) (by omega) ((N4.out.alloc _).b.size) ?_; intro v6 w6 ho6 hg6 hn6; clear hn6; have ho6' := ho6; obtain ⟨a6, c6, rfl, -⟩ := row_slice ho6'; have N5 : Hid (Nx w (.slice a5 (pre.length + 1) c5) (.slice a6 (pre.length + 1) c6) (pre ++ [(y, z)]) (pre ++ [(y, z)]) w6) := (N4.out.alloc _).appV (y, z) ho6 hg6; clear ho6 hg6 ho6'))
          go_roundw
          case rel => exact ⟨i + 1, _, by simp, by omega, (ST.out.1 (by simp [sel, hlt])).symm, N5.out⟩
          case measure => simp [intOf]; omega
      · cases hlt : bg y k with
        | false =>
          rw [hlt] at hBg
          go_wp2_with (first
            | (go_at_call 27; refine hL.mono ?_; rintro e w2 ⟨rfl, hB2⟩; have N2 : Hid (Nx w (.slice a1 pre.length d1) (.slice a2 pre.length d2) pre pre w2) := N.out.below hB2; have N2b := N2.out.b; clear h0 h1 h2 h3; obtain ⟨f0, f1, f2, f3⟩ := C.out _ N2b)
            | (go_at_call 28; refine (hBg _).mono ?_; rintro e w3 ⟨rfl, rfl⟩)
            | (at_builtin; refine wpList_append_own _ rfl _ _ 27 rfl w.heap.size 9 i0 _ 1 16 Try.underlying27 hi0 hz0 hz1 hz2 rfl (by decide) _ pre.length (kcells pre) rfl (N2.out.alloc _).k ⟨w3.heap.size, 0, none⟩ 1 1 [.string y] rfl rfl (new_one _ _ rfl _ _) (by simp [Value.oneCell']) (by unfold maxLen; omega) (by omega) ((N2.out.alloc _).b.size) ?_; intro v5 w5 ho5 hg5 hn5; clear hn5; have ho5' := ho5; obtain ⟨a5, c5, rfl, -⟩ := row_slice ho5'; have N4 : Hid (Nx w (.slice a5 (pre.length + 1) c5) (.slice a2 pre.length d2) (pre ++ [(y, z)]) pre w5) := (N2.out.alloc _).appK (y, z) ho5 hg5; have N4b := N4.out.b; clear ho5 hg5 ho5' f0 f1 f2 f3; obtain ⟨f0, f1, f2, f3⟩ := C.out _ N4b)
            | (at_builtin; refine wpList_append_own _ rfl _ _ 28 rfl w.heap.size 3 j0 _ 1 8 Try.underlying28 hj0 hy0 hy1 hy2 rfl (by decide) _ pre.length (vcells pre) rfl (N4.out.alloc _).v ⟨w5.heap.size, 0, none⟩ 1 1 [.int .i64 z] rfl rfl (new_one _ _ rfl _ _) (by simp [Value.oneCell']) (by unfold maxLen; omega) (by omega) ((N4.out.alloc _).b.size) ?_; intro v6 w6 ho6 hg6 hn6; clear hn6; have ho6' := ho6; obtain ⟨a6, c6, rfl, -⟩ := row_slice ho6'; have N5 : Hid (Nx w (.slice a5 (pre.length + 1) c5) (.slice a6 (pre.length + 1) c6) (pre ++ [(y, z)]) (pre ++ [(y, z)]) w6) := (N4.out.alloc _).appV (y, z) ho6 hg6; clear ho6 hg6 ho6'))
          go_roundw
          case rel => exact ⟨i + 1, _, by simp, by omega, (ST.out.2 (by simp [sel, hlt])).symm, N2.out⟩
          case measure => simp [intOf]; omega
        | true =>
          rw [hlt] at hBg
          go_wp2_with (first
            | (go_at_call 27; refine hL.mono ?_; rintro e w2 ⟨rfl, hB2⟩; have N2 : Hid (Nx w (.slice a1 pre.length d1) (.slice a2 pre.length d2) pre pre w2) := N.out.below hB2; have N2b := N2.out.b; clear h0 h1 h2 h3; obtain ⟨f0, f1, f2, f3⟩ := C.out _ N2b)
            | (go_at_call 28; refine (hBg _).mono ?_; rintro e w3 ⟨rfl, rfl⟩)
            | (at_builtin; refine wpList_append_own _ rfl _ _ 27 rfl w.heap.size 9 i0 _ 1 16 Try.underlying27 hi0 hz0 hz1 hz2 rfl (by decide) _ pre.length (kcells pre) rfl (N2.out.alloc _).k ⟨w3.heap.size, 0, none⟩ 1 1 [.string y] rfl rfl (new_one _ _ rfl _ _) (by simp [Value.oneCell']) (by unfold maxLen; omega) (by omega) ((N2.out.alloc _).b.size) ?_; intro v5 w5 ho5 hg5 hn5; clear hn5; have ho5' := ho5; obtain ⟨a5, c5, rfl, -⟩ := row_slice ho5'; have N4 : Hid (Nx w (.slice a5 (pre.length + 1) c5) (.slice a2 pre.length d2) (pre ++ [(y, z)]) pre w5) := (N2.out.alloc _).appK (y, z) ho5 hg5; have N4b := N4.out.b; clear ho5 hg5 ho5' f0 f1 f2 f3; obtain ⟨f0, f1, f2, f3⟩ := C.out _ N4b)
            | (at_builtin; refine wpList_append_own _ rfl _ _ 28 rfl w.heap.size 3 j0 _ 1 8 Try.underlying28 hj0 hy0 hy1 hy2 rfl (by decide) _ pre.length (vcells pre) rfl (N4.out.alloc _).v ⟨w5.heap.size, 0, none⟩ 1 1 [.int .i64 z] rfl rfl (new_one _ _ rfl _ _) (by simp [Value.oneCell']) (by unfold maxLen; omega) (by omega) ((N4.out.alloc _).b.size) ?_; intro v6 w6 ho6 hg6 hn6; clear hn6; have ho6' := ho6; obtain ⟨a6, c6, rfl, -⟩ := row_slice ho6'; have N5 : Hid (Nx w (.slice a5 (pre.length + 1) c5) (.slice a6 (pre.length + 1) c6) (pre ++ [(y, z)]) (pre ++ [(y, z)]) w6) := (N4.out.alloc _).appV (y, z) ho6 hg6; clear ho6 hg6 ho6'))
          go_roundw
          case rel => exact ⟨i + 1, _, by simp, by omega, (ST.out.1 (by simp [sel, hlt])).symm, N5.out⟩
          case measure => simp [intOf]; omega
    · have hli : ¬ (i : Int) < (es.length : Int) := by omega
      have hp : pre = (es.filter (sel kind k)) := by rw [hpre.out, List.take_of_length_le (by omega)]
      have N : Hid (Nx w (.slice a1 pre.length d1) (.slice a2 pre.length d2) pre pre wr ∧ pre = (es.filter (sel kind k))) := ⟨N0, hp⟩
      clear N0 H hp hpre
      go_wp2
      go_ret2
      obtain ⟨NN, rfl⟩ := N.out
      exact ⟨_, _, rfl, ⟨NN.k, NN.v⟩, NN.b⟩

set_option maxHeartbeats 4000000 in
theorem rRange_down {w : World} {rb base : Nat} {es : List Ent} {kv vv : Value} (h : Rf w rb base es kv vv) (hsh : Short es) (k : ByteArray) (hk : k.size < 4611686018427387904) (hn : es.length * 24 ≤ 211106232528000) :
    Calls Try.prog 16 #[.pointer (some ⟨rb, 0, none⟩), .int .i64 3, .string k] w fun e w' => ∃ kv' vv', e = .returned (.tuple #[kv', vv']) ∧ KV w' w.heap.size kv' vv' (es.filter (sel 3 k)).reverse ∧ Below w.heap.size w w' := by
  obtain ⟨i0, hi0, hz0, hz1, hz2⟩ := info_parts infoStr
  obtain ⟨j0, hj0, hy0, hy1, hy2⟩ := info_parts infoInt
  obtain ⟨ka, kc, rfl, -⟩ := row_slice h.kv.1
  obtain ⟨va, vc, rfl, -⟩ := row_slice h.kv.2
  have H : Hid (Rf w rb base es (.slice ka es.length kc) (.slice va es.length vc) ∧ Short es) := ⟨h, hsh⟩
  have e0 := h.cell0
  clear h hsh
  go_enter Try.func16, Try.ntmps16
  go_wp2
  clear e0
  go_loopw [8, 9, 11] (fun vk vx vi wr => ∃ (i : Nat) (pre : List Ent), vi = .int .i64 i ∧ i ≤ es.length ∧ Hid (pre = (es.reverse.take i).filter (sel 3 k)) ∧ Nx w vk vx pre pre wr) (fun _ _ vi _ => es.length - (intOf vi).toNat)
  case atStart => exact ⟨0, [], rfl, Nat.zero_le _, by show _ = _; simp, Nx.start w⟩
  case round =>
    obtain ⟨i, pre, rfl, hi, hpre, N0⟩ := hrel
    obtain ⟨a1, d1, rfl, -⟩ := row_slice N0.k
    obtain ⟨a2, d2, rfl, -⟩ := row_slice N0.v
    by_cases hl : i < es.length
    · have hli : (i : Int) < (es.length : Int) := by omega
      have hpl : pre.length ≤ i := by rw [hpre.out]; exact Nat.le_trans (List.length_filter_le ..) (by rw [List.length_take]; omega)
      obtain ⟨⟨y, z⟩, hyz⟩ : ∃ e, es[(es.length - 1 - i)]? = some e := ⟨_, List.getElem?_eq_getElem (by omega)⟩
      have ST : Hid ((sel 3 k (y, z) = true → (es.reverse.take (i + 1)).filter (sel 3 k) = pre ++ [(y, z)]) ∧ (sel 3 k (y, z) = false → (es.reverse.take (i + 1)).filter (sel 3 k) = pre)) := by rw [hpre.out]; exact told_step (by rw [List.getElem?_reverse hl]; exact hyz)
      obtain ⟨g, g', rfl, rfl, h0, h1, h2, h3⟩ := rf_at H.out.1 N0.b hyz
      have C : Hid (∀ W, Below w.heap.size w W → W.cell? ⟨rb, 0, none⟩ = some (.slice (some ⟨g, 0, none⟩) es.length kc) ∧ W.cell? ⟨rb, 1, none⟩ = some (.slice (some ⟨g', 0, none⟩) es.length vc) ∧ W.cell? ⟨g, (es.length - 1 - i), none⟩ = some (.string y) ∧ W.cell? ⟨g', (es.length - 1 - i), none⟩ = some (.int .i64 z)) := fun W hW => by
        obtain ⟨x, x', e1, e2, q0, q1, q2, q3⟩ := rf_at H.out.1 hW hyz
        cases e1; cases e2
        exact ⟨q0, q1, q2, q3⟩
      have hL := Less_any y k (H.out.2 _ (List.mem_of_getElem? hyz)) hk wr
      have hBg := Begins_any y k
      have N : Hid _ := N0
      clear N0 H hyz hpre
      have hjl : (es.length : Int) - 1 - (i : Int) = ((es.length - 1 - i : Nat) : Int) := by omega
      have hjm : es.length - 1 - i < es.length := by omega
      generalize es.length - 1 - i = j at *
      go_wp2_with (first
        | (go_at_call 27; refine hL.mono ?_; rintro e w2 ⟨rfl, hB2⟩; have N2 : Hid (Nx w (.slice a1 pre.length d1) (.slice a2 pre.length d2) pre pre w2) := N.out.below hB2; have N2b := N2.out.b; clear h0 h1 h2 h3; obtain ⟨f0, f1, f2, f3⟩ := C.out _ N2b)
        | (go_at_call 28; refine (hBg _).mono ?_; rintro e w3 ⟨rfl, rfl⟩)
        | (at_builtin; refine wpList_append_own _ rfl _ _ 27 rfl w.heap.size 9 i0 _ 1 16 Try.underlying27 hi0 hz0 hz1 hz2 rfl (by decide) _ pre.length (kcells pre) rfl (N2.out.alloc _).k ⟨w3.heap.size, 0, none⟩ 1 1 [.string y] rfl rfl (new_one _ _ rfl _ _) (by simp [Value.oneCell']) (by unfold maxLen; omega) (by omega) ((N2.out.alloc _).b.size) ?_; intro v5 w5 ho5 hg5 hn5; clear hn5; have ho5' := ho5; obtain ⟨a5, c5, rfl, -⟩ := row_slice ho5'; have N4 : Hid (Nx w (.slice a5 (pre.length + 1) c5) (.slice a2 pre.length d2) (pre ++ [(y, z)]) pre w5) := (N2.out.alloc _).appK (y, z) ho5 hg5; have N4b := N4.out.b; clear ho5 hg5 ho5' f0 f1 f2 f3; obtain ⟨f0, f1, f2, f3⟩ := C.out _ N4b)
        | (at_builtin; refine wpList_append_own _ rfl _ _ 28 rfl w.heap.size 3 j0 _ 1 8 Try.underlying28 hj0 hy0 hy1 hy2 rfl (by decide) _ pre.length (vcells pre) rfl (N4.out.alloc _).v ⟨w5.heap.size, 0, none⟩ 1 1 [.int .i64 z] rfl rfl (new_one _ _ rfl _ _) (by simp [Value.oneCell']) (by unfold maxLen; omega) (by omega) ((N4.out.alloc _).b.size) ?_; intro v6 w6 ho6 hg6 hn6; clear hn6; have ho6' := ho6; obtain ⟨a6, c6, rfl, -⟩ := row_slice ho6'; have N5 : Hid (Nx w (.slice a5 (pre.length + 1) c5) (.slice a6 (pre.length + 1) c6) (pre ++ [(y, z)]) (pre ++ [(y, z)]) w6) := (N4.out.alloc _).appV (y, z) ho6 hg6; clear ho6 hg6 ho6'))
      go_roundw
      case rel => exact ⟨i + 1, _, by simp, by omega, (ST.out.1 (by simp [sel])).symm, N5.out⟩
      case measure => simp [intOf]; omega
    · have hli : ¬ (i : Int) < (es.length : Int) := by omega
      have hp : pre = (es.filter (sel 3 k)).reverse := by rw [hpre.out, List.take_of_length_le (by simp; omega), List.filter_reverse]
      have N : Hid (Nx w (.slice a1 pre.length d1) (.slice a2 pre.length d2) pre pre wr ∧ pre = (es.filter (sel 3 k)).reverse) := ⟨N0, hp⟩
      clear N0 H hp hpre
      go_wp2
      go_ret2
      obtain ⟨NN, rfl⟩ := N.out
      exact ⟨_, _, rfl, ⟨NN.k, NN.v⟩, NN.b⟩

theorem filter_from : ∀ (es : List Ent) (k : ByteArray), Rise es → es.filter (fun e => !lt e.1 k) = es.drop (pos es k)
  | [], _, _ => rfl
  | e :: r, k, h => by
    rw [pos]
    by_cases hk : lt e.1 k = true
    · simp only [hk, if_true, List.drop_succ_cons, List.filter_cons, Bool.not_true, Bool.false_eq_true, if_false]
      exact filter_from r k h.tail
    · have hk' : lt e.1 k = false := by simpa using hk
      rw [if_neg hk, List.drop_zero, List.filter_eq_self]
      intro x hx
      rcases List.mem_cons.1 hx with rfl | hx
      · simp [hk']
      · have := (List.pairwise_cons.1 h).1 x hx
        cases hxk : lt x.1 k with
        | false => rfl
        | true => rw [lt_trans this hxk] at hk'; cases hk'
theorem filter_bg : ∀ (l : List Ent) (k : ByteArray), Rise l → (∀ e ∈ l, lt e.1 k = false) → l.filter (fun e => bg e.1 k) = l.take (l.countP (fun e => bg e.1 k))
  | [], _, _, _ => rfl
  | e :: r, k, h, ha => by
    by_cases hb : bg e.1 k = true
    · simp only [List.filter_cons, hb, if_true, List.countP_cons, List.take_succ_cons]
      rw [filter_bg r k h.tail (fun x hx => ha x (List.mem_cons_of_mem _ hx))]
    · have no : ∀ x ∈ e :: r, ¬ bg x.1 k = true := by
        intro x hx
        rcases List.mem_cons.1 hx with rfl | hx
        · exact hb
        · rw [bg_iff] at hb ⊢
          have h1 := (lt_iff _ _).1 ((List.pairwise_cons.1 h).1 x hx)
          have h2 := ha e (List.mem_cons_self ..)
          rw [← Bool.not_eq_true, lt_iff] at h2
          exact prefix_mono _ _ _ (List.not_lt.1 h2) hb (List.le_of_lt h1)
      have e1 : (e :: r).filter (fun e => bg e.1 k) = [] := List.filter_eq_nil_iff.2 no
      have e2 : (e :: r).countP (fun e => bg e.1 k) = 0 := List.countP_eq_zero.2 no
      rw [e1, e2, List.take_zero]
theorem filter_under (es : List Ent) (k : ByteArray) (h : Rise es) : es.filter (fun e => bg e.1 k) = under es k := by
  unfold under
  have hd := filter_from es k h
  have h1 : es.filter (fun e => bg e.1 k) = (es.filter (fun e => !lt e.1 k)).filter (fun e => bg e.1 k) := by
    rw [List.filter_filter]
    apply List.filter_congr
    intro x _
    cases hb : bg x.1 k with
    | false => simp
    | true =>
      have := (bg_iff _ _).1 hb
      have h2 : lt x.1 k = false := by
        rw [← Bool.not_eq_true, lt_iff]
        exact List.not_lt.2 (List.IsPrefix.le this)
      simp [h2]
  rw [h1, hd]
  refine filter_bg _ k (List.Pairwise.sublist (List.drop_sublist _ _) h) ?_
  intro x hx
  rw [← hd] at hx
  have := (List.mem_filter.1 hx).2
  simpa using this

/-- what the document's Range tells -/
theorem rRange_any {w : World} {rb base : Nat} {es : List Ent} {kv vv : Value} (h : Rf w rb base es kv vv) (hs : Rise es) (hsh : Short es) (kind : Int) (hkind : kind = 1 ∨ kind = 2 ∨ kind = 3 ∨ kind = 4) (k : ByteArray) (hk : k.size < 4611686018427387904) (hn : es.length * 24 ≤ 211106232528000) :
    Calls Try.prog 16 #[.pointer (some ⟨rb, 0, none⟩), .int .i64 kind, .string k] w fun e w' => ∃ kv' vv', e = .returned (.tuple #[kv', vv']) ∧ KV w' w.heap.size kv' vv' (pick (kind + 3) k es) ∧ Below w.heap.size w w' := by
  rcases hkind with rfl | rfl | rfl | rfl
  · have e : pick (1 + 3) k es = es.filter (sel 1 k) := by
      rw [List.filter_eq_self.2 (fun x _ => by simp [sel])]; simp [pick]
    rw [e]
    exact rRange_up h hsh 1 (.inl rfl) k hk hn
  · have e : pick (2 + 3) k es = es.filter (sel 2 k) := by
      rw [show sel 2 k = fun e => !lt e.1 k by funext x; simp [sel], filter_from es k hs]; simp [pick]
    rw [e]
    exact rRange_up h hsh 2 (.inr (.inl rfl)) k hk hn
  · have e : pick (3 + 3) k es = (es.filter (sel 3 k)).reverse := by
      rw [List.filter_eq_self.2 (fun x _ => by simp [sel])]; simp [pick]
    rw [e]
    exact rRange_down h hsh k hk hn
  · have e : pick (4 + 3) k es = es.filter (sel 4 k) := by
      rw [show sel 4 k = fun e => bg e.1 k by funext x; simp [sel], filter_under es k hs]; simp [pick]
    rw [e]
    exact rRange_up h hsh 4 (.inr (.inr rfl)) k hk hn
end Go.Proofs.Ytkohcdefhaokiab

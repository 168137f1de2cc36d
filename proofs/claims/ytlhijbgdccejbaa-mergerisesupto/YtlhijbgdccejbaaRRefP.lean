/-
  The document's map: Del.
-/
import Derived.Test.YtlhijbgdccejbaaRRef
namespace Go.Proofs.Ytlhijbgdccejbaa
open Go.RowKit Go.Shelf Go.Sort
open Go.Lib hiding intOf

theorem kcells_take (es : List Ent) (i : Nat) : kcells (es.take i) = (kcells es).take i := by simp [kcells, List.map_take]

theorem kcells_drop (es : List Ent) (i : Nat) : kcells (es.drop i) = (kcells es).drop i := by simp [kcells, List.map_drop]

theorem vcells_take (es : List Ent) (i : Nat) : vcells (es.take i) = (vcells es).take i := by simp [vcells, List.map_take]

theorem vcells_drop (es : List Ent) (i : Nat) : vcells (es.drop i) = (vcells es).drop i := by simp [vcells, List.map_drop]

theorem kcells_one (es : List Ent) : ∀ v ∈ kcells es, v.oneCell' = true := by
  intro v hv; simp only [kcells, List.mem_map] at hv; obtain ⟨e, _, rfl⟩ := hv; rfl

theorem vcells_one (es : List Ent) : ∀ v ∈ vcells es, v.oneCell' = true := by
  intro v hv; simp only [vcells, List.mem_map] at hv; obtain ⟨e, _, rfl⟩ := hv; rfl

theorem Addr.add_lit' (A : Addr) (t : Nat) : (A.add t).block = A.block := by unfold Addr.add; split <;> rfl

/-- where the rest of a slice lies -/
theorem rest_at {w : World} {base : Nat} {e : TypeId} {g n cap : Nat} {xs : List Value} (h : w.ownsRow base e 1 (.slice (some ⟨g, 0, none⟩) n cap) n xs) (hnc : n ≤ cap) (i : Nat) :
    ∃ A : Addr, (if cap = i then some (⟨g, 0, none⟩ : Addr) else some ⟨g, i, none⟩) = some A ∧ A.block = g ∧ ∀ W : World, (∀ j, W.cell? ⟨g, j, none⟩ = w.cell? ⟨g, j, none⟩) → ∀ t u, (xs.drop i)[t]? = some u → W.cell? (A.add t) = some u := by
  by_cases hc : cap = i
  · refine ⟨⟨g, 0, none⟩, by simp [hc], rfl, fun W _ t u hu => ?_⟩
    have h0 : xs.drop i = [] := List.drop_eq_nil_of_le (by rw [h.1]; omega)
    rw [h0] at hu
    simp at hu
  · refine ⟨⟨g, i, none⟩, by simp [hc], rfl, fun W hW t u hu => ?_⟩
    rw [Addr.add_lit, hW]
    rw [List.getElem?_drop] at hu
    exact row_cell h hu

theorem start_at {w : World} {base : Nat} {e : TypeId} {g n cap : Nat} {xs : List Value} (h : w.ownsRow base e 1 (.slice (some ⟨g, 0, none⟩) n cap) n xs) (i : Nat) : ∀ W : World, (∀ j, W.cell? ⟨g, j, none⟩ = w.cell? ⟨g, j, none⟩) → ∀ t u, (xs.take i)[t]? = some u → W.cell? ((⟨g, 0, none⟩ : Addr).add t) = some u := by
  intro W hW t u hu
  rw [Addr.add_lit, Nat.zero_add, hW]
  rw [List.getElem?_take] at hu
  split at hu
  · exact row_cell h hu
  · cases hu

theorem row_some {W : World} {base : Nat} {e : TypeId} {size : Nat} {v : Value} {n : Nat} {xs : List Value} (h : W.ownsRow base e size v n xs) (hv : v = .slice none 0 0 → False) : v.ownBlock.isSome = true := by
  rcases h.2 with ⟨h0, _⟩ | ⟨g', cap, cur, rfl, _⟩
  · exact (hv h0).elim
  · rfl

theorem some_row {v : Value} (h : v.ownBlock.isSome = true) : v = .slice none 0 0 → False := by
  rintro rfl; cases h

/-- what has been made anew since w2: a slice of keys, a slice of values -/
structure Nw (w2 : World) (kx vx : Value) (kl vl : List Value) (W : World) : Prop where
  k : W.ownsRow w2.heap.size 9 1 kx kl.length kl
  v : W.ownsRow w2.heap.size 3 1 vx vl.length vl
  b : Below w2.heap.size w2 W

theorem Nw.start (w2 : World) : Nw w2 (.slice none 0 0) (.slice none 0 0) [] [] w2 := ⟨World.ownsRow_nil _ _ _ _, World.ownsRow_nil _ _ _ _, Below.refl _ _⟩

theorem Nw.alloc {w2 : World} {kx vx : Value} {kl vl : List Value} {W : World} (h : Nw w2 kx vx kl vl W) (o : Obj) : Nw w2 kx vx kl vl (W.alloc o) := ⟨h.k.alloc o, h.v.alloc o, h.b.alloc h.b.size o⟩

theorem Nw.litK {w2 : World} {kx vx : Value} {kl vl : List Value} {W : World} (h : Nw w2 kx vx kl vl W) : Nw w2 (.slice (some ⟨W.heap.size, 0, none⟩) 0 0) vx [] vl (W.alloc (.cells #[] 9)) := ⟨World.ownsRow_lit W #[] 0 h.b.size (Nat.zero_le _) rfl, h.v.alloc _, h.b.alloc h.b.size _⟩

theorem Nw.litV {w2 : World} {kx vx : Value} {kl vl : List Value} {W : World} (h : Nw w2 kx vx kl vl W) : Nw w2 kx (.slice (some ⟨W.heap.size, 0, none⟩) 0 0) kl [] (W.alloc (.cells #[] 3)) := ⟨h.k.alloc _, World.ownsRow_lit W #[] 0 h.b.size (Nat.zero_le _) rfl, h.b.alloc h.b.size _⟩

theorem Nw.appK {w2 : World} {kx vx v1 : Value} {kl vl news : List Value} {W w1 : World} {n : Nat} (h : Nw w2 kx vx kl vl W) (hown : w1.ownsRow w2.heap.size 9 1 v1 (kl.length + n) (kl ++ news)) (hg : W.grownBy w1 kx.ownBlock) (hn : news.length = n) : Nw w2 v1 vx (kl ++ news) vl w1 :=
  ⟨by rw [List.length_append, hn]; exact hown, h.v.kept hg (by
    cases hv : vx.ownBlock with
    | none => exact .inl rfl
    | some g => exact .inr (fun e => row_ne h.v h.k (by decide) hv e.symm rfl)), h.b.grown hg h.b.size (fun k hk => (h.k.lt k hk).1)⟩

theorem Nw.appV {w2 : World} {kx vx v1 : Value} {kl vl news : List Value} {W w1 : World} {n : Nat} (h : Nw w2 kx vx kl vl W) (hown : w1.ownsRow w2.heap.size 3 1 v1 (vl.length + n) (vl ++ news)) (hg : W.grownBy w1 vx.ownBlock) (hn : news.length = n) : Nw w2 kx v1 kl (vl ++ news) w1 :=
  ⟨h.k.kept hg (by
    cases hv : kx.ownBlock with
    | none => exact .inl rfl
    | some g => exact .inr (fun e => row_ne h.k h.v (by decide) hv e.symm rfl)), by rw [List.length_append, hn]; exact hown, h.b.grown hg h.b.size (fun k hk => (h.v.lt k hk).1)⟩

/-- the list without the i-th -/
def cutAt (es : List Ent) (i : Nat) : List Ent := es.take i ++ es.drop (i + 1)

theorem cell_two1 {W : World} {b : Nat} {x y : Value} {t : TypeId} (h : W.heap[b]? = some (.cells #[x, y] t (0, 0))) : W.cell? ⟨b, 1, none⟩ = some y := by simp [World.cell?, h]

theorem fro_two {W : World} {b j : Nat} {x y : Value} {t : TypeId} (h : W.heap[b]? = some (.cells #[x, y] t (0, 0))) : W.frozen? ⟨b, j, none⟩ = false := by simp [World.frozen?, h]

/-- the new keys stand in the map -/
structure St (w2 : World) (rb : Nat) (k5 vx old : Value) (kl vl : List Value) (W : World) : Prop where
  hd : W.heap[rb]? = some (.cells #[k5, old] 57 (0, 0))
  k : W.ownsRow w2.heap.size 9 1 k5 kl.length kl
  v : W.ownsRow w2.heap.size 3 1 vx vl.length vl
  c : Ch (fun b => b = rb) w2 W

theorem Nw.store {w2 : World} {rb : Nat} {kx vx k0 old : Value} {kl vl : List Value} {W : World} (h : Nw w2 kx vx kl vl W) (hd : w2.heap[rb]? = some (.cells #[k0, old] 57 (0, 0))) : St w2 rb kx vx old kl vl (W.setCell ⟨rb, 0, none⟩ kx) := by
  have hlt : rb < w2.heap.size := (Array.getElem?_eq_some_iff.1 hd).1
  have hch : Ch (fun b => b = rb) W (W.setCell ⟨rb, 0, none⟩ kx) := (Ch.refl (fun b => b = rb) W).setCell ⟨rb, 0, none⟩ _ (fun _ => rfl)
  exact ⟨two0 ((h.b.block rb hlt).trans hd) kx, hch.row h.k (fun g hg e => by have := (h.k.lt g hg).1; omega), hch.row h.v (fun g hg e => by have := (h.v.lt g hg).1; omega), (Ch.of_below h.b).trans hch⟩

theorem St.appV {w2 : World} {rb : Nat} {k5 vx old v7 : Value} {kl vl news : List Value} {W w7 : World} {n : Nat} (h : St w2 rb k5 vx old kl vl W) (hown : w7.ownsRow w2.heap.size 3 1 v7 (vl.length + n) (vl ++ news)) (hg : W.grownBy w7 vx.ownBlock) (hn : news.length = n) (hlt : rb < w2.heap.size) : St w2 rb k5 v7 old kl (vl ++ news) w7 := by
  have hs := h.c.size
  have hne : ∀ k, vx.ownBlock = some k → w2.heap.size ≤ k := fun k hk => (h.v.lt k hk).1
  refine ⟨(hg.block rb (by omega) (fun e => by have := hne rb e.symm; omega)).trans h.hd, h.k.kept hg ?_, by rw [List.length_append, hn]; exact hown, ⟨hg.os.trans h.c.os, hg.tape.trans h.c.tape, hg.output.trans h.c.output, Nat.le_trans hs hg.size, fun k hk hX => (hg.block k (by omega) (fun e => by have := hne k e.symm; omega)).trans (h.c.block k hk hX)⟩⟩
  cases hv : k5.ownBlock with
  | none => exact .inl rfl
  | some g => exact .inr (fun e => row_ne h.k h.v (by decide) hv e.symm rfl)

/-- the two slices are those that they were, or new ones -/
def Fr (N : Nat) (kv vv kv' vv' : Value) : Prop := (kv' = kv ∧ vv' = vv) ∨ ∀ g, kv'.ownBlock = some g ∨ vv'.ownBlock = some g → N ≤ g

theorem Fr.low {N N' : Nat} {kv vv kv' vv' : Value} (h : Fr N kv vv kv' vv') (hN : N' ≤ N) : Fr N' kv vv kv' vv' := h.imp id (fun h g e => Nat.le_trans hN (h g e))

theorem St.fin {w w2 : World} {rb base : Nat} {k5 vx old : Value} {es : List Ent} {W : World} (h : St w2 rb k5 vx old (kcells es) (vcells es) W) (hB : Below w.heap.size w w2) (hb0 : base ≤ w.heap.size) (hlt : rb < w2.heap.size) (hal : k5.ownBlock.isSome = vx.ownBlock.isSome) : Rf (W.setCell ⟨rb, 1, none⟩ vx) rb base es k5 vx ∧ Ch (fun b => b = rb) w (W.setCell ⟨rb, 1, none⟩ vx) ∧ ∀ g, k5.ownBlock = some g ∨ vx.ownBlock = some g → w.heap.size ≤ g := by
  have hch : Ch (fun b => b = rb) W (W.setCell ⟨rb, 1, none⟩ vx) := (Ch.refl (fun b => b = rb) W).setCell ⟨rb, 1, none⟩ _ (fun _ => rfl)
  have hs := hB.size
  have e1 : (kcells es).length = es.length := by simp [kcells]
  have e2 : (vcells es).length = es.length := by simp [vcells]
  refine ⟨⟨two1 h.hd vx, hal, ?_, ?_⟩, ((Ch.of_below hB).trans h.c).trans hch, fun g e => e.elim (fun e => Nat.le_trans hs (h.k.lt g e).1) (fun e => Nat.le_trans hs (h.v.lt g e).1)⟩
  · have := row_low (hch.row h.k (fun g hg e => by have := (h.k.lt g hg).1; omega)) (base' := base) (by omega)
    rwa [e1] at this
  · have := row_low (hch.row h.v (fun g hg e => by have := (h.v.lt g hg).1; omega)) (base' := base) (by omega)
    rwa [e2] at this

set_option maxHeartbeats 4000000 in
set_option maxRecDepth 100000 in
theorem rDel_any {w : World} {rb base : Nat} {es : List Ent} {kv vv : Value} (h : Rf w rb base es kv vv) (hs : Rise es) (hsh : Short es) (k : ByteArray) (hk : k.size < 4611686018427387904) (hn : es.length * 24 ≤ 211106232528000) (hb0 : base ≤ w.heap.size) :
    Calls Try.prog 33 #[.pointer (some ⟨rb, 0, none⟩), .string k] w fun e w' => e = .returned (.tuple #[.int .i64 (val es k), .bool (has es k)]) ∧ ∃ kv' vv', Rf w' rb base (del es k) kv' vv' ∧ Ch (fun b => b = rb) w w' ∧ Fr w.heap.size kv vv kv' vv' := by
  have hG := rGet_any h hs hsh k hk (by omega)
  cases hh : has es k with
  | false =>
    have hv : val es k = 0 := by simp [val, hh]
    have hd : del es k = es := by simp [del, hh]
    rw [hh, hv] at hG
    rw [hv, hd]
    have H : Hid (Rf w rb base es kv vv) := h
    clear h hs hsh hh hv hd
    go_enter Try.func33, Try.ntmps33
    go_wp2_with (go_at_call 38; refine hG.mono ?_; rintro e w1 ⟨rfl, hB⟩)
    go_ret2
    exact ⟨rfl, _, _, H.out.below hB, Ch.of_below hB, .inl ⟨rfl, rfl⟩⟩
  | true =>
    obtain ⟨hp, -⟩ := has_lt hh
    have hd : del es k = cutAt es (pos es k) := by simp [del, hh, cutAt]
    rw [hd]
    rw [hh] at hG
    rcases h.kv.1.2 with ⟨rfl, h00⟩ | ⟨g, cap, cur, rfl, hbg, hg, hgc, hgm, -⟩
    · omega
    rcases h.kv.2.2 with ⟨rfl, h00⟩ | ⟨g', cap', cur', rfl, hbg', hg', hgc', hgm', -⟩
    · omega
    have H : Hid (Rf w rb base es (.slice (some ⟨g, 0, none⟩) es.length cap) (.slice (some ⟨g', 0, none⟩) es.length cap') ∧ Rise es ∧ Short es) := ⟨h, hs, hsh⟩
    obtain ⟨i, hi⟩ : ∃ i, i = pos es k := ⟨_, rfl⟩
    have hgl : g < w.heap.size := (Array.getElem?_eq_some_iff.1 hg).1
    have hgl' : g' < w.heap.size := (Array.getElem?_eq_some_iff.1 hg').1
    obtain ⟨A, hA, hAb, hAc⟩ := rest_at h.kv.1 hgc (i + 1)
    obtain ⟨A', hA', hAb', hAc'⟩ := rest_at h.kv.2 hgc' (i + 1)
    have hS1 := start_at h.kv.1 i
    have hS2 := start_at h.kv.2 i
    obtain ⟨i0, hi0, hz0, hz1, hz2⟩ := info_parts infoStr
    obtain ⟨j0, hj0, hy0, hy1, hy2⟩ := info_parts infoInt
    have hlt := h.lt
    have e0 := h.cell0
    have e1 := h.cell1
    have hf0 := h.fro 0
    have hf1 := h.fro 1
    have hhd : Hid (w.heap[rb]? = some (.cells #[.slice (some ⟨g, 0, none⟩) es.length cap, .slice (some ⟨g', 0, none⟩) es.length cap'] 57 (0, 0))) := h.hd
    have hgr : g ≠ rb := by rintro rfl; rw [h.hd] at hg; injection hg with x; injection x with _ x; cases x
    have hgr' : g' ≠ rb := by rintro rfl; rw [h.hd] at hg'; injection hg' with x; injection x with _ x; cases x
    have hcm : cap ≤ 9223372036854775807 := by unfold maxLen at hgm; omega
    have hcm' : cap' ≤ 9223372036854775807 := by unfold maxLen at hgm'; omega
    have L : Hid ((kcells es).length = es.length ∧ (vcells es).length = es.length) := by constructor <;> simp [kcells, vcells]
    rw [← hi] at hp ⊢
    have HI : Hid (i = pos es k) := hi
    clear h hg hg' hs hsh hi hd hh
    generalize val es k = y at *
    have hic : (i : Int) ≤ (cap : Int) := by omega
    have hic' : (i : Int) ≤ (cap' : Int) := by omega
    have hin : (i : Int) ≤ (es.length : Int) := by omega
    have hin1 : (i : Int) + 1 ≤ (es.length : Int) := by omega
    have hw1 : IntKind.i64.wrap ((i : Int) + 1) = (i : Int) + 1 := by rw [IntKind.wrap_i64]; omega
    have htn : ((i : Int) + 1).toNat = i + 1 := by omega
    have h0i : (0 : Int) ≤ (i : Int) + 1 := by omega
    have KO : Hid ((∀ v ∈ kcells es, v.oneCell' = true) ∧ (∀ v ∈ vcells es, v.oneCell' = true)) := ⟨kcells_one es, vcells_one es⟩
    go_enter Try.func33, Try.ntmps33
    go_wp2_with (go_at_call 38; refine hG.mono ?_; rintro e w1 ⟨rfl, hB1⟩)
    refine (rfind_any (H.out.1.below hB1) H.out.2.1 H.out.2.2 k hk (by omega)).mono ?_
    rintro e w2 ⟨rfl, hB2⟩
    have hB : Below w.heap.size w w2 := hB1.trans (hB2.mono hB1.size)
    rw [← HI.out]
    have f0 := (hB.cell (p := ⟨rb, 0, none⟩) hlt).trans e0
    have f1 := (hB.cell (p := ⟨rb, 1, none⟩) hlt).trans e1
    have hsz := hB.size
    have n2 : ¬ rb = w2.heap.size := by omega
    have hr2 : rb < w2.heap.size := by omega
    have N1 : Hid (Nw w2 (.slice (some ⟨w2.heap.size, 0, none⟩) 0 0) (.slice none 0 0) [] [] (w2.alloc (.cells #[] 9))) := (Nw.start w2).litK
    have C1 : Hid (∀ W, Below w2.heap.size w2 W → (∀ t u, ((kcells es).take i)[t]? = some u → W.cell? ((⟨g, 0, none⟩ : Addr).add t) = some u) ∧ (∀ t u, ((vcells es).take i)[t]? = some u → W.cell? ((⟨g', 0, none⟩ : Addr).add t) = some u) ∧ (∀ t u, ((kcells es).drop (i + 1))[t]? = some u → W.cell? (A.add t) = some u) ∧ (∀ t u, ((vcells es).drop (i + 1))[t]? = some u → W.cell? (A'.add t) = some u)) := by
      intro W hW
      have q1 : ∀ j, W.cell? ⟨g, j, none⟩ = w.cell? ⟨g, j, none⟩ := fun j => (hW.cell (p := ⟨g, j, none⟩) (by show g < _; omega)).trans (hB.cell (p := ⟨g, j, none⟩) hgl)
      have q2 : ∀ j, W.cell? ⟨g', j, none⟩ = w.cell? ⟨g', j, none⟩ := fun j => (hW.cell (p := ⟨g', j, none⟩) (by show g' < _; omega)).trans (hB.cell (p := ⟨g', j, none⟩) hgl')
      exact ⟨hS1 W q1, hS2 W q2, hAc W q1, hAc' W q2⟩
    have L2 : Hid (((kcells es).take i).length = i ∧ ((vcells es).take i).length = i ∧ ((kcells es).drop (i + 1)).length = es.length - (i + 1) ∧ ((vcells es).drop (i + 1)).length = es.length - (i + 1)) := by
      have := L.out
      refine ⟨?_, ?_, ?_, ?_⟩
      · rw [List.length_take]; omega
      · rw [List.length_take]; omega
      · rw [List.length_drop]; omega
      · rw [List.length_drop]; omega
    clear hAc hAc' hS1 hS2 hG
    have kt := L2.out.1
    have vt := L2.out.2.1
    have kd := L2.out.2.2.1
    have vd := L2.out.2.2.2
    have HV : Hid (((kcells es).take i).length = i ∧ ((vcells es).take i).length = i ∧ ((kcells es).drop (i + 1)).length = es.length - (i + 1) ∧ ((vcells es).drop (i + 1)).length = es.length - (i + 1)) := ⟨kt, vt, kd, vd⟩
    clear kt vt kd vd
    obtain ⟨d, hd⟩ : ∃ d, d = es.length - (i + 1) := ⟨_, rfl⟩
    have HD : Hid (d = es.length - (i + 1)) := hd
    have hbd : i + d ≤ 8796093022000 := by omega
    have hA1 : A = A := rfl
    clear hA1
    go_wp2_with (first
      | (at_builtin; refine wpList_append_own _ rfl _ _ 45 rfl w2.heap.size 9 i0 _ 1 16 Try.underlying45 hi0 hz0 hz1 hz2 rfl (by decide) _ 0 [] rfl N1.out.k ⟨g, 0, none⟩ i cap ((kcells es).take i) rfl (by rw [HV.out.1, Nat.mul_one]) (C1.out _ N1.out.b).1 (fun u hu => KO.out.1 u (List.mem_of_mem_take hu)) (by unfold maxLen; omega) (by omega) (by simp) ?_; intro v3 w3 ho3 hg3 hn3; have sm3 : Hid (v3.ownBlock.isSome = true) := row_some ho3 (fun e => by have := (hn3.1 e).1; cases this); clear hn3; have ho3' := ho3; rw [Nat.zero_add] at ho3'; obtain ⟨a3, c3, rfl, -⟩ := row_slice ho3'; have N2 : Hid (Nw w2 (.slice a3 i c3) (.slice (some ⟨w3.heap.size, 0, none⟩) 0 0) ((kcells es).take i) [] (w3.alloc (.cells #[] 3))) := by { have := (N1.out.appK (n := i) ho3 hg3 HV.out.1).litV; rw [List.nil_append] at this; exact this }; have N2b := N2.out.b; clear ho3 hg3 ho3'; have p0 := (N2b.cell (p := ⟨rb, 0, none⟩) hr2).trans f0; have p1 := (N2b.cell (p := ⟨rb, 1, none⟩) hr2).trans f1)
      | (at_builtin; refine wpList_append_own _ rfl _ _ 46 rfl w2.heap.size 3 j0 _ 1 8 Try.underlying46 hj0 hy0 hy1 hy2 rfl (by decide) _ 0 [] rfl N2.out.v ⟨g', 0, none⟩ i cap' ((vcells es).take i) rfl (by rw [HV.out.2.1, Nat.mul_one]) (C1.out _ N2.out.b).2.1 (fun u hu => KO.out.2 u (List.mem_of_mem_take hu)) (by unfold maxLen; omega) (by omega) N2b.size ?_; intro v4 w4 ho4 hg4 hn4; have sm4 : Hid (v4.ownBlock.isSome = true) := row_some ho4 (fun e => by have := (hn4.1 e).1; cases this); clear hn4; have ho4' := ho4; rw [Nat.zero_add] at ho4'; obtain ⟨a4, c4, rfl, -⟩ := row_slice ho4'; have N3 : Hid (Nw w2 (.slice a3 i c3) (.slice a4 i c4) ((kcells es).take i) ((vcells es).take i) w4) := by { have := (N2.out.appV (n := i) ho4 hg4 HV.out.2.1); rw [List.nil_append] at this; exact this }; have N3b := N3.out.b; clear ho4 hg4 ho4'; have q0 := (N3b.cell (p := ⟨rb, 0, none⟩) hr2).trans f0; have q1 := (N3b.cell (p := ⟨rb, 1, none⟩) hr2).trans f1; have q2 := (N3b.frozen (p := ⟨rb, 0, none⟩) hr2); have q3 := (N3b.frozen (p := ⟨rb, 1, none⟩) hr2))
      | (at_builtin; refine wpList_append_own _ rfl _ _ 45 rfl w2.heap.size 9 i0 _ 1 16 Try.underlying45 hi0 hz0 hz1 hz2 rfl (by decide) _ _ ((kcells es).take i) rfl N3.out.k A (es.length - (i + 1)) (cap - (i + 1)) ((kcells es).drop (i + 1)) rfl (by rw [HV.out.2.2.1, Nat.mul_one]) (C1.out _ N3.out.b).2.2.1 (fun u hu => KO.out.1 u (List.mem_of_mem_drop hu)) (by rw [HV.out.1]; unfold maxLen; omega) (by rw [HV.out.1]; omega) N3b.size ?_; intro v5 w5 ho5 hg5 hn5; have sm5 : Hid (v5.ownBlock.isSome = true) := row_some ho5 (fun e => some_row sm3.out (hn5.1 e).1); clear hn5; have N4 := N3.out.appK (n := es.length - (i + 1)) ho5 hg5 HV.out.2.2.1; have ho5' := ho5; rw [HV.out.1] at ho5'; obtain ⟨a5, c5, rfl, -⟩ := row_slice ho5'; clear ho5'; have r1 := (N4.b.cell (p := ⟨rb, 1, none⟩) hr2).trans f1; have r0 := (N4.b.cell (p := ⟨rb, 0, none⟩) hr2).trans f0; have r2 := (N4.b.frozen (p := ⟨rb, 0, none⟩) hr2).trans ((hB.frozen (p := ⟨rb, 0, none⟩) hlt).trans hf0); have S5 := N4.store ((hB.block rb hlt).trans hhd.out); have S5' : Hid _ := S5; have s1 : ((w5.setCell ⟨rb, 0, none⟩ (.slice a5 (i + (es.length - (i + 1))) c5)).cell? ⟨rb, 1, none⟩ = some (.slice (some ⟨g', 0, none⟩) es.length cap')) := cell_two1 S5.hd; have cA : Hid (∀ t u, ((vcells es).drop (i + 1))[t]? = some u → (w5.setCell ⟨rb, 0, none⟩ (.slice a5 (i + (es.length - (i + 1))) c5)).cell? (A'.add t) = some u) := (fun t u hu => by { have := (C1.out _ N4.b).2.2.2 t u hu; rw [World.cell?_setCell_other _ _ _ _ (by intro e; have := congrArg Addr.block e; rw [Addr.add_lit' A' t] at this; exact hgr' (by rw [← hAb']; exact this.symm))]; exact this }); have s5z := S5.c.size; clear ho5 hg5 N4 S5)
      | (at_builtin; refine wpList_append_own _ rfl _ _ 46 rfl w2.heap.size 3 j0 _ 1 8 Try.underlying46 hj0 hy0 hy1 hy2 rfl (by decide) _ _ ((vcells es).take i) rfl S5'.out.v A' (es.length - (i + 1)) (cap' - (i + 1)) ((vcells es).drop (i + 1)) rfl (by rw [HV.out.2.2.2, Nat.mul_one]) cA.out (fun u hu => KO.out.2 u (List.mem_of_mem_drop hu)) (by rw [HV.out.2.1]; unfold maxLen; omega) (by rw [HV.out.2.1]; omega) s5z ?_; intro v7 w7 ho7 hg7 hn7; have sm7 : Hid (v7.ownBlock.isSome = true) := row_some ho7 (fun e => some_row sm4.out (hn7.1 e).1); clear hn7; have S7 := S5'.out.appV (n := es.length - (i + 1)) ho7 hg7 HV.out.2.2.2 hr2; have ho7' := ho7; rw [HV.out.2.1] at ho7'; obtain ⟨a7, c7, rfl, -⟩ := row_slice ho7'; clear ho7'; have S7' : Hid _ := S7; have t0 : w7.cell? ⟨rb, 1, none⟩ = some (.slice (some ⟨g', 0, none⟩) es.length cap') := cell_two1 S7.hd; have t1 : w7.frozen? ⟨rb, 1, none⟩ = false := fro_two S7.hd; clear ho7 hg7 S7))
    all_goals go_ret2
    all_goals
      have S7 := S7'.out
      rw [← kcells_take, ← kcells_drop, ← vcells_take, ← vcells_drop] at S7
      have e1 : kcells (es.take i) ++ kcells (es.drop (i + 1)) = kcells (cutAt es i) := by simp [kcells, cutAt]
      have e2 : vcells (es.take i) ++ vcells (es.drop (i + 1)) = vcells (cutAt es i) := by simp [vcells, cutAt]
      rw [e1, e2] at S7
      obtain ⟨z1, z2, z3⟩ := S7.fin hB hb0 hr2 (by rw [sm5.out, sm7.out])
      exact ⟨rfl, _, _, z1, z2, .inr z3⟩
end Go.Proofs.Ytlhijbgdccejbaa

/-
  The library's ranges over a slice of the map's cells (slices.All, slices.Backward), and the count of ranges that a map keeps (lend).
-/
import Derived.Test.YtkohcdefhaokiaaSOver
namespace Go.Proofs.Ytkohcdefhaokiaa
open Go.RowKit Go.Shelf Go.Lib Go.Sort

attribute [local go_sem] Oper.semAt_some

abbrev Ent := ByteArray × Int
abbrev Itm := Nat × Ent

/-- what yield is called with -/
def encs (x : Itm) : Array Value := #[.int .i64 (x.1 : Int), .agg #[.string x.2.1, .int .i64 x.2.2]]

/-- the slice sv has these entries; its cells lie in block cb -/
def Sl (W : World) (sv : Value) (cb : Nat) (zs : List Ent) : Prop :=
  ∃ a cap, sv = .slice a zs.length cap ∧ zs.length < 4611686018427387904 ∧ (zs = [] ∨ ∃ off, a = some ⟨cb, off, none⟩ ∧ ∀ j (h : j < zs.length), W.cell? ⟨cb, off + j * 2, none⟩ = some (.string zs[j].1) ∧ W.cell? ⟨cb, off + j * 2 + 1, none⟩ = some (.int .i64 zs[j].2))

theorem kq_cell {X : Nat → Prop} {W W' : World} (h : Kq X W W') {p : Addr} {v : Value} (hX : X p.block) (hp : W.cell? p = some v) : W'.cell? p = some v := by
  obtain ⟨o, ho, hc⟩ := cells_of_cell hp
  have := h.2 _ _ hX ho hc
  simp only [World.cell?, ho] at hp
  simp only [World.cell?, this]
  exact hp
theorem kq_bx {X : Nat → Prop} {W W' : World} (h : Kq X W W') {b : Nat} {v : Value} {t : TypeId} (hX : X b) (hp : Bx W b v t) : Bx W' b v t := h.2 _ _ hX hp rfl
theorem Sl.kq {X : Nat → Prop} {W W' : World} {sv : Value} {cb : Nat} {zs : List Ent} (h : Sl W sv cb zs) (hk : Kq X W W') (hX : X cb) : Sl W' sv cb zs := by
  obtain ⟨a, cap, e, hl, hz⟩ := h
  refine ⟨a, cap, e, hl, hz.imp id ?_⟩
  rintro ⟨off, ea, hc⟩
  exact ⟨off, ea, fun j hj => ⟨kq_cell hk hX (hc j hj).1, kq_cell hk hX (hc j hj).2⟩⟩
theorem Kq.alloc {X : Nat → Prop} {W W' : World} (h : Kq X W W') (o : Obj) : Kq X W (W'.alloc o) := h.trans ⟨by simp, fun k p _ hk _ => (Below.heap_alloc W' o k (Array.getElem?_eq_some_iff.1 hk).1).trans hk⟩

/-- the entries with their places -/
def placed (zs : List Ent) : List Itm := (List.range zs.length).map (fun j => (j, zs[j]?.getD (⟨#[]⟩, 0)))
def placedBack (zs : List Ent) : List Itm := ((List.range zs.length).map (fun j => (zs.length - 1 - j, zs[zs.length - 1 - j]?.getD (⟨#[]⟩, 0))))

theorem range_map_prefix {α : Type} (f : Nat → α) {k n : Nat} (h : k < n) : (List.range k).map f ++ [f k] <+: (List.range n).map f := by
  have : (List.range k).map f ++ [f k] = (List.range (k + 1)).map f := by rw [List.range_succ]; simp
  rw [this, List.prefix_iff_eq_take]
  apply List.ext_getElem
  · simp; omega
  · intro i h1 h2; simp
theorem range_map_succ {α : Type} (f : Nat → α) (k : Nat) : (List.range (k + 1)).map f = (List.range k).map f ++ [f k] := by rw [List.range_succ]; simp

set_option maxRecDepth 100000 in
set_option maxHeartbeats 2000000 in
/-- slices.All's range -/
theorem all1_any (l bs cb : Nat) (sv : Value) (zs : List Ent) (J Jx : List Itm → World → Prop) (hJa : ∀ pre W o, J pre W → J pre (W.alloc o))
    (hY : ∀ pre x W, J pre W → pre ++ [x] <+: placed zs → Yld Try.prog l (encs x) W fun e W' =>
      (e = .returned (.bool true) ∧ J (pre ++ [x]) W' ∧ Kq (fun k => k = cb ∨ k = bs) W W') ∨ (e = .returned (.bool false) ∧ Jx (pre ++ [x]) W'))
    (W : World) (hb : Bx W bs sv 60) (hs : Sl W sv cb zs) (h0 : J [] W) :
    Calls Try.prog 55 #[.func (.yield l) #[] #[], .pointer (some ⟨bs, 0, none⟩)] W fun e W' => (∃ v, e = .returned v) ∧ (J (placed zs) W' ∨ ∃ pre, Jx pre W') := by
  have hbc := hb.cell
  obtain ⟨a, cap, rfl, hl, hz⟩ := id hs
  refine (callsIn_wide (n := 9)).1 ?_
  refine callsIn_of_wp Try.func55 rfl trivial ?_ rfl
  simp only [Try.ntmps55, List.size_toArray, List.length_cons, List.length_nil, Nat.reduceAdd, Nat.reduceSub, Array.replicate_succ, Array.replicate_zero, List.push_toArray, List.append_toArray, List.nil_append, List.cons_append]
  have HS : Hid (Sl W (.slice a zs.length cap) cb zs) := hs
  clear hs hb
  gi_wp2
  gi_loopw [7] (fun i wr => ∃ k : Nat, k ≤ zs.length ∧ i = .int .i64 k ∧ J ((List.range k).map (fun j => (j, zs[j]?.getD (⟨#[]⟩, 0)))) wr ∧ Kq (fun k => k = cb ∨ k = bs) W wr)
    (fun i _ => zs.length - (intOf i).toNat)
  case atStart => exact ⟨0, Nat.zero_le _, rfl, h0, Kq.refl _ _⟩
  case round =>
    obtain ⟨k, hk, rfl, hJs, hnx⟩ := hrel
    by_cases hlt : k < zs.length
    · rcases hz with hz | ⟨off, rfl, hc⟩
      · rw [hz] at hlt; simp at hlt
      have hc1 := kq_cell hnx (p := ⟨cb, off + k * 2, none⟩) (.inl rfl) (hc k hlt).1
      have hc2 := kq_cell hnx (p := ⟨cb, off + k * 2 + 1, none⟩) (.inl rfl) (hc k hlt).2
      have hJ1 := hJa _ _ (.cells #[.string zs[k].1, .int .i64 zs[k].2] 69) hJs
      obtain ⟨fn, tmps, assign, body, hy, hR⟩ := hY _ (k, zs[k]?.getD (⟨#[]⟩, 0)) _ hJ1 (range_map_prefix (fun j => (j, zs[j]?.getD (⟨#[]⟩, 0))) hlt)
      have hent : zs[k]?.getD (⟨#[]⟩, 0) = zs[k] := by simp [hlt]
      rw [hent] at hy
      simp only [encs] at hy
      have hki : (k : Int) < (zs.length : Int) := by omega
      gi_wp2
      refine (hR _).mono ?_
      rintro e W3 (⟨rfl, hJ3, hk3⟩ | ⟨rfl, hJx3⟩)
      · have hnx3 := hnx.trans ((Kq.alloc (Kq.refl _ _) _).trans hk3)
        gi_wp2
        go_roundw
        case rel => exact ⟨k + 1, by omega, by simp, by rw [range_map_succ]; exact hJ3, hnx3⟩
        case measure => simp [intOf]; omega
      · gi_wp2
        refine bodyPost_ret (results_none rfl _ _ _) rfl ?_
        exact ⟨⟨_, rfl⟩, .inr ⟨_, hJx3⟩⟩
    · obtain rfl : k = zs.length := by omega
      gi_wp2
      go_end0
      exact ⟨⟨_, rfl⟩, .inl hJs⟩

set_option maxRecDepth 100000 in
set_option maxHeartbeats 2000000 in
/-- slices.Backward's range -/
theorem back1_any (l bs cb : Nat) (sv : Value) (zs : List Ent) (J Jx : List Itm → World → Prop)
    (hY : ∀ pre x W, J pre W → pre ++ [x] <+: placedBack zs → Yld Try.prog l (encs x) W fun e W' =>
      (e = .returned (.bool true) ∧ J (pre ++ [x]) W' ∧ Kq (fun k => k = cb ∨ k = bs) W W') ∨ (e = .returned (.bool false) ∧ Jx (pre ++ [x]) W'))
    (W : World) (hb : Bx W bs sv 60) (hs : Sl W sv cb zs) (h0 : J [] W) :
    Calls Try.prog 67 #[.func (.yield l) #[] #[], .pointer (some ⟨bs, 0, none⟩)] W fun e W' => (∃ v, e = .returned v) ∧ (J (placedBack zs) W' ∨ ∃ pre, Jx pre W') := by
  have hbc := hb.cell
  obtain ⟨a, cap, rfl, hl, hz⟩ := id hs
  refine (callsIn_wide (n := 9)).1 ?_
  refine callsIn_of_wp Try.func67 rfl trivial ?_ rfl
  simp only [Try.ntmps67, List.size_toArray, List.length_cons, List.length_nil, Nat.reduceAdd, Nat.reduceSub, Array.replicate_succ, Array.replicate_zero, List.push_toArray, List.append_toArray, List.nil_append, List.cons_append]
  have HS : Hid (Sl W (.slice a zs.length cap) cb zs) := hs
  have hw0 : IntKind.i64.wrap ((zs.length : Int) - 1) = (zs.length : Int) - 1 := by rw [IntKind.wrap_i64]; omega
  clear hs
  gi_wp2
  gi_loopw [3] (fun i wr => ∃ k : Nat, k ≤ zs.length ∧ i = .int .i64 ((zs.length : Int) - 1 - k) ∧ J ((List.range k).map (fun j => (zs.length - 1 - j, zs[zs.length - 1 - j]?.getD (⟨#[]⟩, 0)))) wr ∧ Kq (fun k => k = cb ∨ k = bs) W wr)
    (fun i _ => (intOf i + 1).toNat)
  case atStart => exact ⟨0, Nat.zero_le _, by simp, h0, Kq.refl _ _⟩
  case round =>
    obtain ⟨k, hk, rfl, hJs, hnx⟩ := hrel
    by_cases hlt : k < zs.length
    · rcases hz with hz | ⟨off, rfl, hc⟩
      · rw [hz] at hlt; simp at hlt
      obtain ⟨j, hj⟩ : ∃ j, j = zs.length - 1 - k := ⟨_, rfl⟩
      have hjl : j < zs.length := by omega
      have hji : (zs.length : Int) - 1 - (k : Int) = (j : Int) := by omega
      have hc1 := kq_cell hnx (p := ⟨cb, off + j * 2, none⟩) (.inl rfl) (hc j hjl).1
      have hc2 := kq_cell hnx (p := ⟨cb, off + j * 2 + 1, none⟩) (.inl rfl) (hc j hjl).2
      have hbc1 := (kq_bx hnx (.inr rfl) hb).cell
      obtain ⟨fn, tmps, assign, body, hy, hR⟩ := hY _ (zs.length - 1 - k, zs[zs.length - 1 - k]?.getD (⟨#[]⟩, 0)) _ hJs (range_map_prefix (fun j => (zs.length - 1 - j, zs[zs.length - 1 - j]?.getD (⟨#[]⟩, 0))) hlt)
      have hent : zs[zs.length - 1 - k]?.getD (⟨#[]⟩, 0) = zs[j] := by rw [← hj]; simp [hjl]
      have hR' : Hid (∀ m, RoundIn Fence.wide m Try.prog l fn tmps assign body wr fun e W' => (e = .returned (.bool true) ∧ J ((List.range (k + 1)).map (fun j => (zs.length - 1 - j, zs[zs.length - 1 - j]?.getD (⟨#[]⟩, 0)))) W' ∧ Kq (fun k => k = cb ∨ k = bs) wr W') ∨ (e = .returned (.bool false) ∧ ∃ pre, Jx pre W')) := fun m => (hR m).mono (by
        rintro e W' (⟨h1, h2, h3⟩ | ⟨h1, h2⟩)
        · exact .inl ⟨h1, by rw [range_map_succ]; exact h2, h3⟩
        · exact .inr ⟨h1, _, h2⟩)
      clear hR
      rw [hent, ← hj] at hy
      simp only [encs] at hy
      have hki : (j : Int) < (zs.length : Int) := by omega
      have hw1 : IntKind.i64.wrap ((j : Int) - 1) = (j : Int) - 1 := by rw [IntKind.wrap_i64]; omega
      rw [hji]
      have HJ : Hid (j = zs.length - 1 - k) := hj
      clear hJs hent hY hji hj
      gi_wp2
      refine (hR'.out _).mono ?_
      rintro e W3 (⟨rfl, hJ3, hk3⟩ | ⟨rfl, pre, hJx3⟩)
      · have hnx3 := hnx.trans hk3
        gi_wp2
        go_roundw
        case rel => exact ⟨k + 1, by omega, by have := HJ.out; congr 1; omega, hJ3, hnx3⟩
        case measure => simp [intOf]
      · gi_wp2
        refine bodyPost_ret (results_none rfl _ _ _) rfl ?_
        exact ⟨⟨_, rfl⟩, .inr ⟨_, hJx3⟩⟩
    · obtain rfl : k = zs.length := by omega
      have hm1 : (zs.length : Int) - 1 - (zs.length : Int) = -1 := by omega
      rw [hm1]
      gi_wp2
      go_end0
      exact ⟨⟨_, rfl⟩, .inl hJs⟩
end Go.Proofs.Ytkohcdefhaokiaa

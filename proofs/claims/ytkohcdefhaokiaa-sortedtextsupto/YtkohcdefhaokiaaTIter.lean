/-
  The map of texts: the library's range over a slice of its cells.
-/
import Derived.Test.YtkohcdefhaokiaaTOver
namespace Go.Proofs.Ytkohcdefhaokiaa.T
open Go.RowKit Go.Shelf Go.Lib Go.Sort
attribute [local go_sem] Oper.semAt_some

abbrev Ent := ByteArray × ByteArray

abbrev Itm := Nat × Ent

/-- what yield is called with -/
def encs (x : Itm) : Array Value := #[.int .i64 (x.1 : Int), .agg #[.string x.2.1, .string x.2.2]]

/-- the slice sv has these entries; its cells lie in block cb -/
def Sl (W : World) (sv : Value) (cb : Nat) (zs : List Ent) : Prop :=
  ∃ a cap, sv = .slice a zs.length cap ∧ zs.length < 4611686018427387904 ∧ (zs = [] ∨ ∃ off, a = some ⟨cb, off, none⟩ ∧ ∀ j (h : j < zs.length), W.cell? ⟨cb, off + j * 2, none⟩ = some (.string zs[j].1) ∧ W.cell? ⟨cb, off + j * 2 + 1, none⟩ = some (.string zs[j].2))

theorem Sl.kq {X : Nat → Prop} {W W' : World} {sv : Value} {cb : Nat} {zs : List Ent} (h : Sl W sv cb zs) (hk : Kq X W W') (hX : X cb) : Sl W' sv cb zs := by
  obtain ⟨a, cap, e, hl, hz⟩ := h
  refine ⟨a, cap, e, hl, hz.imp id ?_⟩
  rintro ⟨off, ea, hc⟩
  exact ⟨off, ea, fun j hj => ⟨kq_cell hk hX (hc j hj).1, kq_cell hk hX (hc j hj).2⟩⟩

/-- the entries with their places -/
def placed (zs : List Ent) : List Itm := (List.range zs.length).map (fun j => (j, zs[j]?.getD (⟨#[]⟩, ⟨#[]⟩)))

set_option maxRecDepth 100000 in
set_option maxHeartbeats 2000000 in
/-- slices.All's range -/
theorem all1_any (l bs cb : Nat) (sv : Value) (zs : List Ent) (J Jx : List Itm → World → Prop) (hJa : ∀ pre W o, J pre W → J pre (W.alloc o))
    (hY : ∀ pre x W, J pre W → pre ++ [x] <+: placed zs → Yld Try.prog l (encs x) W fun e W' =>
      (e = .returned (.bool true) ∧ J (pre ++ [x]) W' ∧ Kq (fun k => k = cb ∨ k = bs) W W') ∨ (e = .returned (.bool false) ∧ Jx (pre ++ [x]) W'))
    (W : World) (hb : Bx W bs sv 75) (hs : Sl W sv cb zs) (h0 : J [] W) :
    Calls Try.prog 66 #[.func (.yield l) #[] #[], .pointer (some ⟨bs, 0, none⟩)] W fun e W' => (∃ v, e = .returned v) ∧ (J (placed zs) W' ∨ ∃ pre, Jx pre W') := by
  have hbc := hb.cell
  obtain ⟨a, cap, rfl, hl, hz⟩ := id hs
  refine (callsIn_wide (n := 9)).1 ?_
  refine callsIn_of_wp Try.func66 rfl trivial ?_ rfl
  simp only [Try.ntmps66, List.size_toArray, List.length_cons, List.length_nil, Nat.reduceAdd, Nat.reduceSub, Array.replicate_succ, Array.replicate_zero, List.push_toArray, List.append_toArray, List.nil_append, List.cons_append]
  have HS : Hid (Sl W (.slice a zs.length cap) cb zs) := hs
  clear hs hb
  gi_wp2
  gi_loopw [7] (fun i wr => ∃ k : Nat, k ≤ zs.length ∧ i = .int .i64 k ∧ J ((List.range k).map (fun j => (j, zs[j]?.getD (⟨#[]⟩, ⟨#[]⟩)))) wr ∧ Kq (fun k => k = cb ∨ k = bs) W wr)
    (fun i _ => zs.length - (intOf i).toNat)
  case atStart => exact ⟨0, Nat.zero_le _, rfl, h0, Kq.refl _ _⟩
  case round =>
    obtain ⟨k, hk, rfl, hJs, hnx⟩ := hrel
    by_cases hlt : k < zs.length
    · rcases hz with hz | ⟨off, rfl, hc⟩
      · rw [hz] at hlt; simp at hlt
      have hc1 := kq_cell hnx (p := ⟨cb, off + k * 2, none⟩) (.inl rfl) (hc k hlt).1
      have hc2 := kq_cell hnx (p := ⟨cb, off + k * 2 + 1, none⟩) (.inl rfl) (hc k hlt).2
      have hJ1 := hJa _ _ (.cells #[.string zs[k].1, .string zs[k].2] 81) hJs
      obtain ⟨fn, tmps, assign, body, hy, hR⟩ := hY _ (k, zs[k]?.getD (⟨#[]⟩, ⟨#[]⟩)) _ hJ1 (range_map_prefix (fun j => (j, zs[j]?.getD (⟨#[]⟩, ⟨#[]⟩))) hlt)
      have hent : zs[k]?.getD (⟨#[]⟩, ⟨#[]⟩) = zs[k] := by simp [hlt]
      rw [hent] at hy
      simp only [encs] at hy
      have hki : (k : Int) < (zs.length : Int) := by omega
      gi_wp2
      refine (hR _).mono ?_
      rintro e W3 (⟨rfl, hJ3, hk3⟩ | ⟨rfl, hJx3⟩)
      · have hnx3 := hnx.trans ((Kq.alloc (Kq.refl _ _) _).trans hk3)
        gi_wp2
        go_roundw
        case rel => exact ⟨k + 1, by omega, by simp, by rw [range_map_succ]; exact hJ3, hnx3⟩
        case measure => simp [intOf]; omega
      · gi_wp2
        refine bodyPost_ret (results_none rfl _ _ _) rfl ?_
        exact ⟨⟨_, rfl⟩, .inr ⟨_, hJx3⟩⟩
    · obtain rfl : k = zs.length := by omega
      gi_wp2
      go_end0
      exact ⟨⟨_, rfl⟩, .inl hJs⟩
end Go.Proofs.Ytkohcdefhaokiaa.T

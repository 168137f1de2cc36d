/-
  Package disk: Append.
-/
import Derived.Test.YtedcabnjcbdkaaaL4Open
namespace Go.Proofs.Ytedcabnjcbdkaaa
open Go.RowKit Go.Shelf Go.Sort
open Go.Lib hiding intOf
variable {w : World} {B d : Nat} {es : List Le} {p : Int} {off : Bool} {mo : Option Nat}

theorem infoU8 : (Try.prog.info? 5).map (fun i => (i.zero, i.size, i.bytes)) = some (some (.int .u8 0), 1, 1) := by kernel_rfl
/-- a string's bytes are put behind a row's: where they then lie -/
theorem bytes_append {W : World} {v : Value} {n : Nat} {xs : List Value} (hown : W.ownsRow B 5 1 v n xs) (s : ByteArray) (hn : n + s.size ≤ 1048576) (hB : B ≤ W.heap.size) (ty : TypeId) :
    ∃ v' w', (Builtin.append_ #[62, 9] ty #[v, .string s]).run Try.prog W = .ok v' w' ∧ w'.ownsRow B 5 1 v' (n + s.size) (xs ++ strCells s) ∧ W.grownBy w' v.ownBlock ∧ ∀ x, v'.ownBlock = some x → v.ownBlock = some x ∨ W.heap.size ≤ x := by
  obtain ⟨i0, hi, hz0, hz1, hz2⟩ := info_parts infoU8
  obtain ⟨v', w', hr, h2, h3, h4⟩ := run_append_own_string (P := Try.prog) W B 62 9 ty 5 i0 Try.underlying62 Try.underlying9 hi hz0 hz1 hz2 v n xs hown s (by unfold maxLen; omega) (by omega) hB
  refine ⟨v', w', hr, h2, h3, ?_⟩
  rcases hown.2 with ⟨rfl, rfl⟩ | ⟨g, cap, cur, rfl, hbg, hg, hnc, hcm, hcs, htake⟩
  · by_cases hm : s.size = 0
    · rw [h4.2 ⟨rfl, hm⟩]
      intro x hx; cases hx
    · have hx0 : xs = [] := List.eq_nil_of_length_eq_zero (by have := hown.1; omega)
      subst hx0
      obtain ⟨v2, w2, hr2, h22, -, -⟩ := run_append_own_string (P := Try.prog) W W.heap.size 62 9 ty 5 i0 Try.underlying62 Try.underlying9 hi hz0 hz1 hz2 (.slice none 0 0) 0 [] (World.ownsRow_nil _ _ _ _) s (by unfold maxLen; omega) (by omega) (Nat.le_refl _)
      rw [hr] at hr2
      injection hr2 with e1 e2
      subst e1; subst e2
      intro x hx
      exact .inr (row_obj h22 hx).1
  · by_cases hroom : n + s.size ≤ cap
    · have hr2 := run_append_room_string (P := Try.prog) W 62 9 ty 5 i0 Try.underlying62 Try.underlying9 hi hz1 g n cap cur hg s hroom (by omega)
      rw [hr] at hr2
      injection hr2 with e1 e2
      subst e1
      intro x hx
      exact .inl hx
    · have holds : ∀ j u, xs[j]? = some u → W.cell? ((⟨g, 0, none⟩ : Addr).add j) = some u := hown.cells (g := g) rfl
      have hr2 := run_append_grow_string (P := Try.prog) W 62 9 ty 5 i0 (.int .u8 0) Try.underlying62 Try.underlying9 hi hz0 ⟨g, 0, none⟩ n cap xs (by rw [hz1]; simpa using hown.1) holds s (by omega) (by omega) (by rw [hz2]; exact growslice_fits (by omega) (by omega))
      rw [hr] at hr2
      injection hr2 with e1 e2
      subst e1
      intro x hx
      cases hx
      exact .inr (Nat.le_refl _)
/-- a file with more bytes -/
def grown (v : Lv) (s : ByteArray) (bv : Value) : Lv := { safe := v.safe, rest := v.rest ++ s, g := v.g, bv := bv }
theorem grown_all (v : Lv) (s : ByteArray) (bv : Value) : (grown v s bv).all = v.all ++ s := by
  show v.safe ++ (v.rest ++ s) = (v.safe ++ v.rest) ++ s
  exact (ByteArray.append_assoc).symm
theorem strCells_app (a b : ByteArray) : strCells (a ++ b) = strCells a ++ strCells b := by
  unfold strCells
  rw [ba_app, List.map_append]
/-- the slice with more bytes is stored -/
theorem Fw.grown {W w' : World} {v : Lv} {v' : Value} {s : ByteArray} (F : Fw W B v) (h2 : w'.ownsRow B 5 1 v' (v.all.size + s.size) (strCells v.all ++ strCells s)) (h3 : W.grownBy w' v.bv.ownBlock) (h4 : ∀ x, v'.ownBlock = some x → v.bv.ownBlock = some x ∨ W.heap.size ≤ x) :
    w'.cell? ⟨v.g, 0, none⟩ = some v.bv ∧ w'.frozen? ⟨v.g, 0, none⟩ = false ∧ Fw (w'.setCell ⟨v.g, 0, none⟩ v') B (grown v s v') ∧ Ch (fun x => v.at x) W (w'.setCell ⟨v.g, 0, none⟩ v') := by
  have hne : ∀ x, v.bv.ownBlock = some x → x ≠ v.g := by
    rintro x hx rfl
    obtain ⟨_, cur, hcc⟩ := row_obj F.row hx
    rw [F.hd] at hcc; injection hcc with hcc; injection hcc with _ hcc; cases hcc
  have C1 : Ch (fun x => v.bv.ownBlock = some x) W w' := Ch.of_grown h3 (fun x e _ => e)
  have hh := C1.obj F.hd (fun e => hne _ e rfl)
  have C2 : Ch (fun x => v.at x) W (w'.setCell ⟨v.g, 0, none⟩ v') := (C1.mono (fun _ _ e => .inr e)).setCell ⟨v.g, 0, none⟩ _ (fun _ => .inl rfl)
  refine ⟨by simp [World.cell?, hh], by simp [World.frozen?, hh], ⟨two0 hh v', ?_, F.low⟩, C2⟩
  rw [grown_all, ByteArray.size_append, strCells_app]
  refine (show Ch (fun x => x = v.g) w' (w'.setCell ⟨v.g, 0, none⟩ v') from (Ch.refl _ w').setCell _ _ (fun _ => rfl)).row h2 ?_
  intro x hx e
  subst e
  rcases h4 _ hx with h5 | h5
  · exact hne _ h5 rfl
  · have := F.lt
    omega

set_option maxHeartbeats 4000000 in
/-- Append that is refused -/
theorem Append_no (h : Ld w B d es p off mo) (k s : ByteArray) (hz : k.size ≤ 9223372036854775807) (hno : appNo (fil es, p, off) k s ≠ 0) :
    Calls Try.prog 19 #[.pointer (some ⟨d, 0, none⟩), .string k, .string s] w fun e w' => e = .returned (.int .i64 (appNo (fil es, p, off) k s)) ∧ w' = w := by
  have c3 := h.c3
  unfold appNo at hno ⊢
  simp only [fil_has, fil_len] at hno ⊢
  cases off with
  | true =>
    clear h hno
    simp only [if_true]
    go_enter Try.func19, Try.ntmps19
    go_wp2
    go_ret
    exact ⟨rfl, rfl⟩
  | false =>
    simp only [Bool.false_eq_true, if_false] at hno ⊢
    by_cases hname : k.size < 1 ∨ 32 < k.size
    · rw [if_pos hname]
      clear h hno
      rcases hname with h1 | h1
      · have h1' : (k.size : Int) < 1 := by omega
        go_enter Try.func19, Try.ntmps19
        go_wp2
        go_ret
        exact ⟨rfl, rfl⟩
      · have h1' : ¬ (k.size : Int) < 1 := by omega
        have h2' : (32 : Int) < (k.size : Int) := by omega
        go_enter Try.func19, Try.ntmps19
        go_wp2
        go_ret
        exact ⟨rfl, rfl⟩
    · rw [if_neg hname] at hno ⊢
      have h1' : ¬ (k.size : Int) < 1 := by omega
      have h2' : ¬ (32 : Int) < (k.size : Int) := by omega
      have hfits : Calls Try.prog 35 #[.pointer (some ⟨d, 0, none⟩), .string k, .string s] w fun e w' => e = .returned (.bool false) ∧ w' = w := by
        cases hh : has es k with
        | true =>
          obtain ⟨v, hk⟩ := has_mem hh
          have := fits_has h hk s
          rw [hh] at hno
          simp only [if_true, fil_gv h.rise hk] at hno
          have e1 : v.safe.size + v.rest.size = v.all.size := (ByteArray.size_append).symm
          rw [e1] at hno
          have hd : decide (v.all.size + s.size ≤ 1048576) = false := by
            by_cases hf : 1048576 < v.all.size + s.size
            · simp; omega
            · rw [if_neg hf] at hno; exact absurd rfl hno
          rw [hd] at this
          exact this
        | false =>
          have := fits_no h hz hh s
          rw [hh] at hno
          simp only [Bool.false_eq_true, if_false] at hno
          have hf := h.few
          have hd : decide (es.length < 256 ∧ s.size ≤ 1048576) = false := by
            by_cases hf' : es.length = 256 ∨ 1048576 < s.size
            · simp; omega
            · rw [if_neg hf'] at hno; exact absurd rfl hno
          rw [hd] at this
          exact this
      have hans : (if has es k = true then (if 1048576 < (gv (fil es) k).1.size + (gv (fil es) k).2.size + s.size then (4 : Int) else 0) else if es.length = 256 ∨ 1048576 < s.size then 4 else 0) = 4 := by
        split <;> split <;> simp_all
      rw [hans]
      clear h hno hans hname
      go_enter Try.func19, Try.ntmps19
      go_wp2_with (go_at_call 35; refine hfits.mono ?_; rintro e w1 ⟨rfl, rfl⟩)
      go_ret
      exact ⟨rfl, rfl⟩
end Go.Proofs.Ytedcabnjcbdkaaa

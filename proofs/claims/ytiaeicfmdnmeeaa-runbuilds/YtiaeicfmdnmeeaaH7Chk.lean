/-
  Package run: what checks a key and its cell (checks), and their bytes (putCell).
-/
import Derived.Test.YtiaeicfmdnmeeaaH7Over
import Derived.Test.YtiaeicfmdnmeeaaF5Take
namespace Go.Proofs.Ytiaeicfmdnmeeaa
open Go.RowKit Go.Shelf Go.Sort
open Go.Lib hiding intOf

theorem leq_str (a b : ByteArray) (w : World) : (binOp .leq 9 (.string a) (.string b)).run Try.prog w = .ok (.bool (!(lt b a))) w := by
  have h : (binOp .leq 9 (.string a) (.string b)).run Try.prog w = .ok (.bool (Op.bytesLess a.toList b.toList || a.toList == b.toList)) w := by
    simp only [binOp]; rfl
  rw [h]
  congr 2
  cases h1 : lt b a with
  | true =>
    have h2 := lt_asymm h1
    unfold lt at h2
    rw [h2]
    have : (a.toList == b.toList) = false := beq_eq_false_iff_ne.2 (fun e => by
      have e2 : a = b := key_ext (by simpa [Lib.toList_data] using e)
      subst e2; rw [lt_irrefl] at h1; cases h1)
    simp [this]
  | false =>
    cases h2 : lt a b with
    | true => unfold lt at h2; simp [h2]
    | false => have := lt_total h2 h1; subst this; simp
/-- what checks, behind a key -/
structure Ck (w : World) (ba bb : Nat) (a : Option (List UInt8)) : Prop where
  ka : Bx w ba (.string (S (a.getD []))) 9
  kb : Bx w bb (.bool a.isSome) 4
def ckv (ba bb : Nat) : Value := .func (.func 49) #[] #[.pointer (some ⟨bb, 0, none⟩), .pointer (some ⟨ba, 0, none⟩)]
theorem Ck.ch {w w' : World} {ba bb : Nat} {a : Option (List UInt8)} (h : Ck w ba bb a) {X : Nat → Prop} (hc : Ch X w w') (h1 : ¬ X ba) (h2 : ¬ X bb) : Ck w' ba bb a := ⟨h.ka.ch hc h1, h.kb.ch hc h2⟩
theorem Ck.ne {w : World} {ba bb : Nat} {a : Option (List UInt8)} (h : Ck w ba bb a) : ba ≠ bb := h.ka.ne h.kb (by decide)

set_option maxHeartbeats 400000 in
theorem checks_any (w : World) : Calls Try.prog 30 #[] w fun e w' => e = .returned (ckv w.heap.size (w.heap.size + 1)) ∧ Ck w' w.heap.size (w.heap.size + 1) none ∧ Below w.heap.size w w' ∧ w'.heap.size = w.heap.size + 2 := by
  have hmf : ∀ (fn : Fn) (first cap : Array Value) (w : World), (Instr.makeFunc fn first cap).run Try.prog w = .ok (.func fn first cap) w := fun _ _ _ _ => rfl
  have hR : Hid (Ck ((w.alloc (.cells #[.string ⟨#[]⟩] 9)).alloc (.cells #[.bool false] 4)) w.heap.size (w.heap.size + 1) none) := by
    refine ⟨(Bx.new w _ _).alloc _, ?_⟩
    have := Bx.new (w.alloc (.cells #[.string ⟨#[]⟩] 9)) (.bool false) 4
    rwa [World.size_alloc] at this
  go_enter Try.func30, Try.ntmps30
  go_wp2
  go_ret
  exact ⟨rfl, hR.out, ((Below.refl _ w).alloc (Nat.le_refl _) _).alloc (by simp) _, by simp⟩

/-- what a call of it leaves -/
def CkL (w w' : World) (ba bb : Nat) : Prop := Ch (fun k => k = ba ∨ k = bb) w w'

set_option maxHeartbeats 1000000 in
theorem chk_any {w : World} {ba bb : Nat} {a : Option (List UInt8)} (h : Ck w ba bb a) (x : R7) (h1 : x.1.length ≤ 4611686018427387904) (h2 : x.2.1.length ≤ 4611686018427387904) :
    Calls Try.prog 49 (encc x ++ #[.pointer (some ⟨bb, 0, none⟩), .pointer (some ⟨ba, 0, none⟩)]) w fun e w' => e = .returned (.int .i64 (chk a x : Int)) ∧ (chk a x = 0 → Ck w' ba bb (some x.1)) ∧ Ch (fun k => k = ba ∨ k = bb) w w' := by
  have hs1 := S_size x.1
  have hs2 := S_size x.2.1
  obtain ⟨k, s, g⟩ := x
  simp only at h1 h2 hs1 hs2
  have hne := h.ne
  have B0 : Hid (Ch (fun k => k = ba ∨ k = bb) w (w.alloc (.cells #[.string (S s), .bool g] 37))) := (Ch.refl _ w).alloc _
  have CA := (h.ka.alloc (.cells #[.string (S s), .bool g] 37))
  have CB := (h.kb.alloc (.cells #[.string (S s), .bool g] 37))
  have ca := CA.cell
  have fa := CA.fro
  have cb := CB.cell
  have fb := CB.fro
  have hleq := leq_str
  by_cases q1 : 64 < k.length
  · have q1' : (64 : Int) < (k.length : Int) := by omega
    have HE : Hid (chk a (k, s, g) = 13) := by show _ = _; simp [chk, may, q1]
    unfold encc cv
    go_enter Try.func49, Try.ntmps49
    go_wp2
    go_ret
    rw [HE.out]
    exact ⟨rfl, (fun h => by cases h), B0.out⟩
  · have q1' : ¬ (64 : Int) < (k.length : Int) := by omega
    by_cases q2 : 16384 < s.length
    · have q2' : (16384 : Int) < (s.length : Int) := by omega
      have HE : Hid (chk a (k, s, g) = 13) := by show _ = _; simp [chk, may, q2]
      unfold encc cv
      go_enter Try.func49, Try.ntmps49
      go_wp2
      go_ret
      rw [HE.out]
      exact ⟨rfl, (fun h => by cases h), B0.out⟩
    · have q2' : ¬ (16384 : Int) < (s.length : Int) := by omega
      by_cases q3 : g = true ∧ s ≠ []
      · obtain ⟨rfl, q3⟩ := q3
        have q4 : (S s).toList.isEmpty = false := by rw [S_toList]; cases s with
          | nil => exact absurd rfl q3
          | cons _ _ => rfl
        have HE : Hid (chk a (k, s, true) = 1) := by show _ = _; simp [chk, may, q1, q2, q3]
        clear q3
        unfold encc cv
        go_enter Try.func49, Try.ntmps49
        go_wp2
        go_ret
        rw [HE.out]
        exact ⟨rfl, (fun h => by cases h), B0.out⟩
      · have hm : may (k, s, g) = 0 := by simp only [may]; rw [if_neg (by omega), if_neg q3]
        have q5 : g = false ∨ (g = true ∧ (S s).toList.isEmpty = true) := by
          cases g with
          | false => exact .inl rfl
          | true =>
            right
            have : s = [] := by
              cases s with
              | nil => rfl
              | cons c t => exact absurd ⟨rfl, by simp⟩ q3
            subst this
            exact ⟨rfl, by simp [S_toList]⟩
        have fin : Hid (∀ ok : chk a (k, s, g) = 0, Ck (((w.alloc (.cells #[.string (S s), .bool g] 37)).setCell ⟨ba, 0, none⟩ (.string (S k))).setCell ⟨bb, 0, none⟩ (.bool true)) ba bb (some k) ∧ Ch (fun k => k = ba ∨ k = bb) w (((w.alloc (.cells #[.string (S s), .bool g] 37)).setCell ⟨ba, 0, none⟩ (.string (S k))).setCell ⟨bb, 0, none⟩ (.bool true))) := by
          intro _
          refine ⟨⟨(one0 CA _).ch ((Ch.refl (fun k => k = bb) _).setCell _ _ (fun _ => rfl)) hne, one0 (CB.ch ((Ch.refl (fun k => k = ba) _).setCell _ _ (fun _ => rfl)) (fun e => hne e.symm)) _⟩, ?_⟩
          exact (B0.out.setCell _ _ (fun _ => .inl rfl)).setCell _ _ (fun _ => .inr rfl)
        have hne' : bb ≠ ba := fun e => hne e.symm
        clear q3 h
        cases a with
        | none =>
          have HE : Hid (chk none (k, s, g) = 0) := by show _ = _; simp [chk, hm]
          clear hm
          simp only [Option.isSome_none, Option.getD_none] at ca cb
          unfold encc cv
          rcases q5 with rfl | ⟨rfl, q5⟩
          · go_enter Try.func49, Try.ntmps49
            go_wp2
            go_ret
            rw [HE.out]
            exact ⟨rfl, fun _ => (fin.out HE.out).1, (fin.out HE.out).2⟩
          · go_enter Try.func49, Try.ntmps49
            go_wp2
            go_ret
            rw [HE.out]
            exact ⟨rfl, fun _ => (fin.out HE.out).1, (fin.out HE.out).2⟩
        | some o =>
          simp only [Option.isSome_some, Option.getD_some] at ca cb
          have HE : Hid (chk (some o) (k, s, g) = if lt (S o) (S k) = true then 0 else 8) := by show _ = _; simp [chk, hm]
          clear hm
          unfold encc cv
          cases hl : lt (S o) (S k) with
          | true =>
            rw [hl] at HE
            have HE0 : Hid (chk (some o) (k, s, g) = 0) := HE
            clear HE
            rcases q5 with rfl | ⟨rfl, q5⟩
            · go_enter Try.func49, Try.ntmps49
              go_wp2
              go_ret
              rw [HE0.out]
              exact ⟨rfl, fun _ => (fin.out HE0.out).1, (fin.out HE0.out).2⟩
            · go_enter Try.func49, Try.ntmps49
              go_wp2
              go_ret
              rw [HE0.out]
              exact ⟨rfl, fun _ => (fin.out HE0.out).1, (fin.out HE0.out).2⟩
          | false =>
            rw [hl] at HE
            have HE0 : Hid (chk (some o) (k, s, g) = 8) := HE
            clear HE
            rcases q5 with rfl | ⟨rfl, q5⟩
            · go_enter Try.func49, Try.ntmps49
              go_wp2
              go_ret
              rw [HE0.out]
              exact ⟨rfl, (fun h => by cases h), B0.out⟩
            · go_enter Try.func49, Try.ntmps49
              go_wp2
              go_ret
              rw [HE0.out]
              exact ⟨rfl, (fun h => by cases h), B0.out⟩
end Go.Proofs.Ytiaeicfmdnmeeaa

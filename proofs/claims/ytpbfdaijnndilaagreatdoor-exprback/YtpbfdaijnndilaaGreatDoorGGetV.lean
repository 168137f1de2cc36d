/-
  Package value: Less, Get.
-/
import Derived.Test.YtpbfdaijnndilaaGreatDoorGValR
import Derived.Lib.Bytealg
import Derived.Laws.StructEq
namespace Go.Proofs.YtpbfdaijnndilaaGreatDoor
open Go.RowKit Go.Shelf Go.Sort
open Go.Lib hiding intOf

/-- -1, 0 or 1 -/
def cmp3 (a b : ByteArray) : Int := if lt a b then -1 else if lt b a then 1 else 0
theorem cmp3_eq (a b : ByteArray) : Lib.compareBytes a.data.toList b.data.toList = cmp3 a b := by
  have key : ∀ (x y : List UInt8), Lib.compareBytes x y = if x < y then -1 else if y < x then 1 else 0 := by
    intro x
    induction x with
    | nil =>
      intro y
      cases y with
      | nil => simp [Lib.compareBytes]
      | cons b bs => simp [Lib.compareBytes]
    | cons c cs ih =>
      intro y
      cases y with
      | nil => simp [Lib.compareBytes]
      | cons d ds =>
        rw [Lib.compareBytes, ih ds]
        simp only [List.cons_lt_cons_iff]
        by_cases h1 : c < d
        · simp [h1]
        · by_cases h2 : d < c
          · have hne : ¬ c = d := fun e => by subst e; exact h1 h2
            have hne' : ¬ d = c := fun e => hne e.symm
            simp [h1, h2, hne]
          · have he : c = d := UInt8.le_antisymm (UInt8.not_lt.1 h2) (UInt8.not_lt.1 h1)
            subst he
            simp [h1]
  rw [key, cmp3]
  have e1 : (lt a b = true) = (a.data.toList < b.data.toList) := propext (lt_iff a b)
  have e2 : (lt b a = true) = (b.data.toList < a.data.toList) := propext (lt_iff b a)
  simp only [e1, e2]

/-- a variable as it stands -/
def xA (x : Vr) : Value := .agg #[.string x.1, .int .i64 x.2.1, .int .i64 x.2.2.1, .string (S x.2.2.2)]
theorem cmp3_neg {a b : ByteArray} : cmp3 a b < 0 ↔ lt a b = true := by
  unfold cmp3
  constructor
  · intro h
    split at h
    · assumption
    · split at h <;> omega
  · intro h; rw [if_pos h]; omega
theorem cmp3_zero {a b : ByteArray} : cmp3 a b = 0 ↔ a = b := by
  unfold cmp3
  constructor
  · intro h
    split at h
    · cases h
    · split at h
      · cases h
      · rename_i h1 h2
        exact lt_total (by simpa using h1) (by simpa using h2)
  · rintro rfl; rw [lt_irrefl]; rfl

end Go.Proofs.YtpbfdaijnndilaaGreatDoor
namespace Go.Proofs.YtpbfdaijnndilaaGreatDoor
open Go.RowKit Go.Shelf Go.Sort
open Go.Lib hiding intOf

theorem get_ways : ∀ (l : List Vr) (k : ByteArray), (∃ (i : Nat) (h : i < l.length), l[i].1 = k ∧ (∀ (j : Nat) (hj : j < i), (l[j]'(by omega)).1 ≠ k) ∧ getV l k = (l[i].2, true)) ∨ ((∀ x ∈ l, x.1 ≠ k) ∧ getV l k = ((0, 0, []), false))
  | [], k => .inr ⟨fun x hx => (by cases hx), rfl⟩
  | x :: t, k => by
    by_cases h : x.1 = k
    · exact .inl ⟨0, by simp, h, fun j hj => by omega, by simp [getV, h]⟩
    · rcases get_ways t k with ⟨i, hi, h1, h2, h3⟩ | ⟨h1, h2⟩
      · refine .inl ⟨i + 1, by simp; omega, by simpa using h1, fun j hj => ?_, by simp [getV, h, h3]⟩
        cases j with
        | zero => simpa using h
        | succ j => simpa using h2 j (by omega)
      · refine .inr ⟨fun y hy => ?_, by simp [getV, h, h2]⟩
        rcases List.mem_cons.1 hy with rfl | hy
        · exact h
        · exact h1 y hy
theorem str_eq {a b : ByteArray} (h : a = b) : (a.toList == b.toList) = true := by rw [h]; simp
theorem str_ne {a b : ByteArray} (h : a ≠ b) : (a.toList == b.toList) = false := by
  rw [beq_eq_false_iff_ne]
  exact fun e => h (key_ext (by simpa [Lib.toList_data] using e))

set_option maxHeartbeats 1000000 in
theorem get1_any (x : Vr) (k : ByteArray) (b : Nat) (w : World) (hb : w.cell? ⟨b, 0, none⟩ = some (.string k)) (hlt : b < w.heap.size) : Calls Tryz.prog 135 #[xA x, .pointer (some ⟨b, 0, none⟩)] w fun e w' => e = .returned (.bool (x.1.toList == k.toList)) ∧ Below w.heap.size w w' := by
  obtain ⟨nm, a, n, s⟩ := x
  have B1 : Hid (Below w.heap.size w (w.alloc (.cells #[.string nm, .int .i64 a, .int .i64 n, .string (S s)] 50))) := (Below.refl _ w).alloc (Nat.le_refl _) _
  unfold xA
  go_enter Tryz.func135, Tryz.ntmps135
  go_wp2
  go_ret
  exact ⟨rfl, B1.out⟩

/-- the first one that has the name -/
def Hit (l : List Vr) (k : ByteArray) (i : Nat) : Prop := (∀ (j : Nat) (hj : j < l.length), j < i → l[j].1 ≠ k) ∧ ∀ (h : i < l.length), l[i].1 = k
set_option maxHeartbeats 4000000 in
set_option maxRecDepth 100000 in
theorem Index_any {w : World} {v : Value} {l : List Vr} {k : ByteArray} {b i : Nat} (hv : Vs w v l) (hn : l.length ≤ 4611686018427387904) (hb : w.cell? ⟨b, 0, none⟩ = some (.string k)) (hlt : b < w.heap.size) (hi : i ≤ l.length) (hh : Hit l k i) :
    Calls Tryz.prog 134 #[v, .func (.func 135) #[] #[.pointer (some ⟨b, 0, none⟩)]] w fun e w' => e = .returned (.int .i64 (if i < l.length then (i : Int) else -1)) ∧ Below w.heap.size w w' := by
  have HV : Hid (Vs w v l) := hv
  have HH : Hid (Hit l k i) := hh
  have HC : Hid (∀ W, Below w.heap.size w W → ∀ x, Calls Tryz.prog 135 #[xA x, .pointer (some ⟨b, 0, none⟩)] W fun e w' => e = .returned (.bool (x.1.toList == k.toList)) ∧ Below W.heap.size W w') := fun W hW x => get1_any x k b W ((hW.cell (p := ⟨b, 0, none⟩) hlt).trans hb) (Nat.lt_of_lt_of_le hlt hW.size)
  obtain ⟨a, cap, rfl, -⟩ := hv
  clear hb hh
  go_enter Tryz.func134, Tryz.ntmps134
  go_wp2
  go_loopw [8] (fun v8 wr => ∃ j : Nat, v8 = .int .i64 (j : Int) ∧ j ≤ i ∧ Hid (Below w.heap.size w wr)) (fun v8 _ => l.length - (intOf v8).toNat)
  case atStart => exact ⟨0, rfl, Nat.zero_le _, Below.refl _ _⟩
  case round =>
    obtain ⟨j, rfl, hj, HB⟩ := hrel
    by_cases hjl : j < l.length
    · have hjl' : (j : Int) < (l.length : Int) := by omega
      have hj0 : (0 : Int) ≤ (j : Int) := by omega
      obtain ⟨b', off, cap', hsl, hbl, hcell⟩ := HV.out.at hjl
      cases hsl
      obtain ⟨m0, m1, m2, m3⟩ := hcell wr HB.out
      have CG := HC.out wr HB.out l[j]
      by_cases hji : j < i
      · have hne := str_ne (HH.out.1 j hjl hji)
        unfold xA at CG
        clear hcell
        generalize l[j] = x at *
        obtain ⟨nm, x1, x2, x3⟩ := x
        simp only at m0 m1 m2 m3 CG hne
        rw [hne] at CG
        clear hne
        go_wp2_with (go_at_call 135; refine CG.mono ?_; rintro e w1 ⟨rfl, b1⟩; (have B1 : Hid (Below w.heap.size w w1) := bel_of HB.out b1 (Nat.le_refl _)); clear b1)
        go_roundw
        case rel => exact ⟨j + 1, by simp, by omega, B1⟩
        case measure => simp [intOf]; omega
      · obtain rfl : j = i := by omega
        have hq := str_eq (HH.out.2 hjl)
        unfold xA at CG
        clear hcell
        generalize l[j] = x at *
        obtain ⟨nm, x1, x2, x3⟩ := x
        simp only at m0 m1 m2 m3 CG hq
        rw [hq] at CG
        clear hq
        go_wp2_with (go_at_call 135; refine CG.mono ?_; rintro e w1 ⟨rfl, b1⟩; (have B1 : Hid (Below w.heap.size w w1) := bel_of HB.out b1 (Nat.le_refl _)); clear b1)
        go_ret
        exact ⟨by first | rfl | (rw [if_pos hjl]; rfl), B1.out⟩
    · have hjl' : ¬ (j : Int) < (l.length : Int) := by omega
      go_wp2
      go_ret
      exact ⟨by first | rfl | (rw [if_neg (by omega)]; rfl), HB.out⟩

/-- what Get leaves -/
def gA (x : V9 × Bool) : Value := .tuple #[vA x.1, .bool x.2]
set_option maxHeartbeats 4000000 in
set_option maxRecDepth 100000 in
theorem Get_any {w : World} {v : Value} {l : List Vr} (k : ByteArray) (hv : Vs w v l) (hn : l.length ≤ 4611686018427387904) :
    Calls Tryz.prog 115 #[v, .string k] w fun e w' => e = .returned (gA (getV l k)) ∧ Below w.heap.size w w' := by
  have hmf : ∀ (fn : Fn) (first cap : Array Value) (w : World), (Instr.makeFunc fn first cap).run Tryz.prog w = .ok (.func fn first cap) w := fun _ _ _ _ => rfl
  have B0 : Hid (Below w.heap.size w ((w.alloc (.cells #[.string k] 9)).alloc (.cells #[.int .i64 0, .int .i64 0, .string ⟨#[]⟩] 48))) := ((Below.refl _ w).alloc (Nat.le_refl _) _).alloc (by simp) _
  have hcl : ((w.alloc (.cells #[.string k] 9)).alloc (.cells #[.int .i64 0, .int .i64 0, .string ⟨#[]⟩] 48)).cell? ⟨w.heap.size, 0, none⟩ = some (.string k) := by go_simp
  have hz0 : w.heap.size < ((w.alloc (.cells #[.string k] 9)).alloc (.cells #[.int .i64 0, .int .i64 0, .string ⟨#[]⟩] 48)).heap.size := by simp; omega
  have hz1 : w.heap.size + 1 < ((w.alloc (.cells #[.string k] 9)).alloc (.cells #[.int .i64 0, .int .i64 0, .string ⟨#[]⟩] 48)).heap.size := by simp
  have hfr : ∀ i, ((w.alloc (.cells #[.string k] 9)).alloc (.cells #[.int .i64 0, .int .i64 0, .string ⟨#[]⟩] 48)).frozen? ⟨w.heap.size + 1, i, none⟩ = false := fun i => by
    have := World.frozen?_alloc_new (w.alloc (.cells #[.string k] 9)) #[.int .i64 0, .int .i64 0, .string ⟨#[]⟩] 48 i
    rw [World.size_alloc] at this
    exact this
  have hce : ∀ i, ((w.alloc (.cells #[.string k] 9)).alloc (.cells #[.int .i64 0, .int .i64 0, .string ⟨#[]⟩] 48)).cell? ⟨w.heap.size + 1, i, none⟩ = (#[.int .i64 0, .int .i64 0, .string ⟨#[]⟩] : Array Value)[i]? := fun i => by
    have := World.cell?_alloc_new (w.alloc (.cells #[.string k] 9)) #[.int .i64 0, .int .i64 0, .string ⟨#[]⟩] 48 i
    rw [World.size_alloc] at this
    exact this
  have HV : Hid (Vs w v l) := hv
  rcases get_ways l k with ⟨i, hi, h1, h2, h3⟩ | ⟨h1, h3⟩
  · have CI := Index_any (i := i) (hv.up B0.out) hn hcl hz0 (by omega) ⟨fun j hj hji => h2 j hji, fun _ => h1⟩
    rw [if_pos hi] at CI
    obtain ⟨b', off, cap', hsl, hbl, hcell⟩ := hv.at hi
    subst hsl
    have HCE : Hid (∀ W, Below w.heap.size w W → _) := fun W hW => hcell W hW
    have HE : Hid (getV l k = (l[i].2, true)) := h3
    have hi0 : (0 : Int) ≤ (i : Int) := by omega
    have hil : (i : Int) < (l.length : Int) := by omega
    have hin : ¬ (i : Int) < 0 := by omega
    obtain ⟨x, hx⟩ : ∃ x, l[i] = x := ⟨_, rfl⟩
    rw [hx] at HCE HE
    obtain ⟨nm, x1, x2, x3⟩ := x
    clear h1 h2 h3 hv hcell hx
    go_enter Tryz.func115, Tryz.ntmps115
    go_wp2_with (go_at_call 134; refine CI.mono ?_; rintro e w1 ⟨rfl, b1⟩; (have B1 : Hid (Below w.heap.size w w1) := bel_of B0.out b1 (Nat.le_refl _)); obtain ⟨-, m1, m2, m3⟩ := HCE.out w1 B1.out; simp only at m1 m2 m3; (have f0 := (b1.frozen (p := ⟨w.heap.size + 1, 0, none⟩) hz1).trans (hfr 0)); (have f1 := (b1.frozen (p := ⟨w.heap.size + 1, 1, none⟩) hz1).trans (hfr 1)); (have f2 := (b1.frozen (p := ⟨w.heap.size + 1, 2, none⟩) hz1).trans (hfr 2)); (have g0 := (b1.cell (p := ⟨w.heap.size + 1, 0, none⟩) hz1).trans (hce 0)); (have g1 := (b1.cell (p := ⟨w.heap.size + 1, 1, none⟩) hz1).trans (hce 1)); (have g2 := (b1.cell (p := ⟨w.heap.size + 1, 2, none⟩) hz1).trans (hce 2)); clear b1 CI)
    exact bodyPost_ret (v := .tuple #[.agg #[.int .i64 x1, .int .i64 x2, .string (S x3)], .bool true]) (by simp [results, Tryz.results115, go_sem, g0, g1, g2]) rfl ⟨by rw [HE.out]; rfl, ((B1.out.setCell (Nat.le_succ _) _).setCell (Nat.le_succ _) _).setCell (Nat.le_succ _) _⟩
  · have CI := Index_any (i := l.length) (hv.up B0.out) hn hcl hz0 (Nat.le_refl _) ⟨fun j hj _ => h1 _ (List.getElem_mem hj), fun h => by omega⟩
    rw [if_neg (by omega)] at CI
    have HE : Hid (getV l k = ((0, 0, []), false)) := h3
    obtain ⟨a, cap, rfl, -⟩ := hv
    clear h1 h3
    go_enter Tryz.func115, Tryz.ntmps115
    go_wp2_with (go_at_call 134; refine CI.mono ?_; rintro e w1 ⟨rfl, b1⟩; (have B1 : Hid (Below w.heap.size w w1) := bel_of B0.out b1 (Nat.le_refl _)); (have f0 := (b1.frozen (p := ⟨w.heap.size + 1, 0, none⟩) hz1).trans (hfr 0)); (have f1 := (b1.frozen (p := ⟨w.heap.size + 1, 1, none⟩) hz1).trans (hfr 1)); (have f2 := (b1.frozen (p := ⟨w.heap.size + 1, 2, none⟩) hz1).trans (hfr 2)); (have g0 := (b1.cell (p := ⟨w.heap.size + 1, 0, none⟩) hz1).trans (hce 0)); (have g1 := (b1.cell (p := ⟨w.heap.size + 1, 1, none⟩) hz1).trans (hce 1)); (have g2 := (b1.cell (p := ⟨w.heap.size + 1, 2, none⟩) hz1).trans (hce 2)); clear b1 CI)
    exact bodyPost_ret (v := .tuple #[.agg #[.int .i64 0, .int .i64 0, .string ⟨#[]⟩], .bool false]) (by simp [results, Tryz.results115, go_sem, g0, g1, g2]) rfl ⟨by rw [HE.out]; rfl, ((B1.out.setCell (Nat.le_succ _) _).setCell (Nat.le_succ _) _).setCell (Nat.le_succ _) _⟩

theorem xA_ways {x y : Vr} (h : x ≠ y) : ((x.1.toList = y.1.toList) = False) ∨ ((x.1.toList = y.1.toList) = True ∧ (x.2.1 = y.2.1) = False) ∨ ((x.1.toList = y.1.toList) = True ∧ (x.2.1 = y.2.1) = True ∧ (x.2.2.1 = y.2.2.1) = False) ∨ ((x.1.toList = y.1.toList) = True ∧ (x.2.1 = y.2.1) = True ∧ (x.2.2.1 = y.2.2.1) = True ∧ ((S x.2.2.2).toList = (S y.2.2.2).toList) = False) := by
  obtain ⟨a, b, c, d⟩ := x
  obtain ⟨a', b', c', d'⟩ := y
  simp only
  by_cases h1 : a.toList = a'.toList
  · by_cases h2 : b = b'
    · by_cases h3 : c = c'
      · refine .inr (.inr (.inr ⟨eq_true h1, eq_true h2, eq_true h3, eq_false (fun e => h ?_)⟩))
        rw [S_toList, S_toList] at e
        rw [show a = a' from key_ext (by simpa [Lib.toList_data] using h1), h2, h3, e]
      · exact .inr (.inr (.inl ⟨eq_true h1, eq_true h2, eq_false h3⟩))
    · exact .inr (.inl ⟨eq_true h1, eq_false h2⟩)
  · exact .inl (eq_false h1)
end Go.Proofs.YtpbfdaijnndilaaGreatDoor

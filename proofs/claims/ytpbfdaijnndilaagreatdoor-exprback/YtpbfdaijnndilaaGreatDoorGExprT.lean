/-
  Package expr: tokens; the reader in memory.
-/
import Derived.Test.YtpbfdaijnndilaaGreatDoorX10Pure
import Derived.Test.YtpbfdaijnndilaaGreatDoorV9Nam
import Derived.IntWalk
import Derived.WalkLawsBesides
import Derived.Deep.DeepAppendWide
import Derived.Maps.AppendAt
import Derived.Deep.RegionHeld3
import Derived.Deep.RegionLaw
namespace Go.Proofs.YtpbfdaijnndilaaGreatDoor.x10
open Go.RowKit Go.Shelf Go.Sort
open Go.Lib hiding intOf

/-- a test of bytes -/
def Bt (f : Nat) (p : UInt8 → Bool) : Prop := ∀ (c : UInt8) (w : World), Calls Tryz.prog f #[.int .u8 (c.toNat : Int)] w fun e w' => e = .returned (.bool (p c)) ∧ w' = w
theorem digit_any : Bt 92 kD := fun c w => by
  unfold kD
  by_cases h1 : 48 ≤ c.toNat
  · have h1' : (48 : Int) ≤ (c.toNat : Int) := by omega
    by_cases h2 : c.toNat ≤ 57
    · have h2' : (c.toNat : Int) ≤ 57 := by omega
      rw [decide_eq_true h1, decide_eq_true h2]
      go_enter Tryz.func92, Tryz.ntmps92
      go_wp2
      go_ret
      exact ⟨rfl, rfl⟩
    · have h2' : ¬ (c.toNat : Int) ≤ 57 := by omega
      rw [decide_eq_true h1, decide_eq_false h2]
      go_enter Tryz.func92, Tryz.ntmps92
      go_wp2
      go_ret
      exact ⟨rfl, rfl⟩
  · have h1' : ¬ (48 : Int) ≤ (c.toNat : Int) := by omega
    rw [decide_eq_false h1]
    go_enter Tryz.func92, Tryz.ntmps92
    go_wp2
    go_ret
    exact ⟨rfl, rfl⟩
theorem letter_any : Bt 94 kA := fun c w => by
  unfold kA
  by_cases h1 : 97 ≤ c.toNat
  · have h1' : (97 : Int) ≤ (c.toNat : Int) := by omega
    by_cases h2 : c.toNat ≤ 122
    · have h2' : (c.toNat : Int) ≤ 122 := by omega
      rw [decide_eq_true h1, decide_eq_true h2]
      go_enter Tryz.func94, Tryz.ntmps94
      go_wp2
      go_ret
      exact ⟨rfl, rfl⟩
    · have h2' : ¬ (c.toNat : Int) ≤ 122 := by omega
      rw [decide_eq_true h1, decide_eq_false h2]
      go_enter Tryz.func94, Tryz.ntmps94
      go_wp2
      go_ret
      exact ⟨rfl, rfl⟩
  · have h1' : ¬ (97 : Int) ≤ (c.toNat : Int) := by omega
    rw [decide_eq_false h1]
    go_enter Tryz.func94, Tryz.ntmps94
    go_wp2
    go_ret
    exact ⟨rfl, rfl⟩
theorem blank_any : Bt 91 kB := fun c w => by
  unfold kB
  cases h1 : c.toNat == 32 with
  | true =>
    have h1' : ((c.toNat : Int) == 32) = true := by simp at h1 ⊢; omega
    go_enter Tryz.func91, Tryz.ntmps91
    go_wp2
    go_ret
    exact ⟨rfl, rfl⟩
  | false =>
    have h1' : ((c.toNat : Int) == 32) = false := by simp at h1 ⊢; omega
    cases h2 : c.toNat == 9 with
    | true =>
      have h2' : ((c.toNat : Int) == 9) = true := by simp at h2 ⊢; omega
      clear h1 h2
      go_enter Tryz.func91, Tryz.ntmps91
      go_wp2
      go_ret
      exact ⟨rfl, rfl⟩
    | false =>
      have h2' : ((c.toNat : Int) == 9) = false := by simp at h2 ⊢; omega
      cases h3 : c.toNat == 10 with
      | true =>
        have h3' : ((c.toNat : Int) == 10) = true := by simp at h3 ⊢; omega
        clear h1 h2 h3
        go_enter Tryz.func91, Tryz.ntmps91
        go_wp2
        go_ret
        exact ⟨rfl, rfl⟩
      | false =>
        have h3' : ((c.toNat : Int) == 10) = false := by simp at h3 ⊢; omega
        clear h1 h2 h3
        go_enter Tryz.func91, Tryz.ntmps91
        go_wp2
        go_ret
        exact ⟨rfl, rfl⟩
theorem inWord_any : Bt 96 kW := fun c w => by
  unfold kW
  have CL := letter_any c
  have CD := digit_any c
  cases h1 : kA c with
  | true =>
    rw [h1] at CL
    go_enter Tryz.func96, Tryz.ntmps96
    go_wp2_with (first
      | (go_at_call 94; refine (CL _).mono ?_; rintro e w1 ⟨rfl, hw1⟩; rw [hw1]; clear hw1)
      | (go_at_call 92; refine (CD _).mono ?_; rintro e w2 ⟨rfl, hw2⟩; rw [hw2]; clear hw2))
    go_ret
    exact ⟨rfl, rfl⟩
  | false =>
    rw [h1] at CL
    cases h2 : kD c with
    | true =>
      rw [h2] at CD
      go_enter Tryz.func96, Tryz.ntmps96
      go_wp2_with (first
        | (go_at_call 94; refine (CL _).mono ?_; rintro e w1 ⟨rfl, hw1⟩; rw [hw1]; clear hw1)
        | (go_at_call 92; refine (CD _).mono ?_; rintro e w2 ⟨rfl, hw2⟩; rw [hw2]; clear hw2))
      go_ret
      exact ⟨rfl, rfl⟩
    | false =>
      rw [h2] at CD
      have h3 : ((c.toNat : Int) == 95) = (c.toNat == 95) := by
        cases h : c.toNat == 95
        · simp at h ⊢; omega
        · simp at h ⊢; omega
      go_enter Tryz.func96, Tryz.ntmps96
      go_wp2_with (first
        | (go_at_call 94; refine (CL _).mono ?_; rintro e w1 ⟨rfl, hw1⟩; rw [hw1]; clear hw1)
        | (go_at_call 92; refine (CD _).mono ?_; rintro e w2 ⟨rfl, hw2⟩; rw [hw2]; clear hw2))
      go_ret
      exact ⟨by simp, rfl⟩
/-- what giving up is -/
def wrg (e a : Int) : List PanicEntry := [{ v := .iface 63 (.agg #[.int .i64 e, .int .i64 a]), recovered := false }]
theorem giveUp_any (e a : Int) (w : World) : Calls Tryz.prog 65 #[.int .i64 e, .int .i64 a] w fun r w' => r = .panicked (wrg e a) ∧ w' = w := by
  go_enter Tryz.func65, Tryz.ntmps65
  go_wp2
  exact ⟨rfl, rfl, rfl⟩
theorem spn_le (p : UInt8 → Bool) (l : List UInt8) : spn p l ≤ l.length := by
  unfold spn
  have := (List.takeWhile_prefix (l := l) p).length_le
  exact this
/-- so far all are so; the next one is asked -/
theorem spn_go {p : UInt8 → Bool} : ∀ {l : List UInt8} {i : Nat}, (∀ j (h : j < l.length), j < i → p l[j] = true) → (h : i < l.length) → p l[i] = false → spn p l = i
  | c :: t, 0, _, _, hn => by unfold spn; rw [List.takeWhile_cons_of_neg (by simpa using hn)]; rfl
  | c :: t, i + 1, hp, h, hn => by
    have h0 : p c = true := hp 0 (by simp) (by omega)
    have ih := spn_go (p := p) (l := t) (i := i) (fun j hj hji => hp (j + 1) (by simp; omega) (by omega)) (by simpa using h) (by simpa using hn)
    unfold spn at ih ⊢
    rw [List.takeWhile_cons_of_pos h0, List.length_cons, ih]
theorem spn_all {p : UInt8 → Bool} : ∀ {l : List UInt8}, (∀ j (h : j < l.length), p l[j] = true) → spn p l = l.length
  | [], _ => rfl
  | c :: t, hp => by
    have h0 : p c = true := hp 0 (by simp)
    have ih := spn_all (p := p) (l := t) (fun j hj => hp (j + 1) (by simp; omega))
    unfold spn at ih ⊢
    rw [List.takeWhile_cons_of_pos h0, List.length_cons, ih, List.length_cons]
theorem S_at (l : List UInt8) (i : Nat) (h : i < l.length) (h' : i < (S l).size) : (S l)[i]'h' = l[i]'h := by simp [S, ByteArray.getElem_eq_getElem_data]

set_option maxHeartbeats 1000000 in
theorem span_blank (l : List UInt8) (hl : l.length ≤ 4611686018427387904) (w : World) : Calls Tryz.prog 90 #[.string (S l), .func (.func 91) #[] #[]] w fun e w' => e = .returned (.int .i64 (spn kB l : Int)) ∧ w' = w := by
  have hz := S_size l
  have HF : Hid (Bt 91 kB) := blank_any
  go_enter Tryz.func90, Tryz.ntmps90
  go_wp2
  go_loopw [5] (fun v5 wr => ∃ i : Nat, v5 = .int .i64 (i : Int) ∧ i ≤ l.length ∧ wr = w ∧ Hid (∀ j (h : j < l.length), j < i → kB l[j] = true)) (fun v5 _ => l.length - (intOf v5).toNat)
  case atStart => exact ⟨0, rfl, Nat.zero_le _, rfl, fun j h hj => by omega⟩
  case round =>
    obtain ⟨i, rfl, hi, rfl, HI⟩ := hrel
    by_cases hlt : i < l.length
    · have hlt' : (i : Int) < (l.length : Int) := by omega
      have hi0 : (0 : Int) ≤ (i : Int) := by omega
      obtain ⟨c, hc⟩ : ∃ c, l[i] = c := ⟨_, rfl⟩
      have hgi : ∀ (h : i < (S l).size), (S l)[i]'h = c := fun h => (S_at l i hlt h).trans hc
      have CF := HF.out c
      cases hp : kB c with
      | true =>
        rw [hp] at CF
        have HN : Hid (∀ j (h : j < l.length), j < i + 1 → kB l[j] = true) := fun j h hj => by
          rcases Nat.lt_succ_iff_lt_or_eq.1 hj with h1 | rfl
          · exact HI.out j h h1
          · rw [hc]; exact hp
        clear hc hp
        go_wp2_with (go_at_call 91; refine (CF _).mono ?_; rintro e w1 ⟨rfl, hw1⟩; rw [hw1]; clear hw1)
        go_roundw
        case rel => exact ⟨i + 1, by simp, by omega, by first | rfl | trivial, HN⟩
        case measure => simp [intOf]; omega
      | false =>
        rw [hp] at CF
        have HE : Hid (spn kB l = i) := spn_go HI.out hlt (by rw [hc]; exact hp)
        clear hc hp
        go_wp2_with (go_at_call 91; refine (CF _).mono ?_; rintro e w1 ⟨rfl, hw1⟩; rw [hw1]; clear hw1)
        go_ret
        rw [HE.out]
        exact ⟨rfl, rfl⟩
    · have hlt' : ¬ (i : Int) < (l.length : Int) := by omega
      have HE : Hid (spn kB l = i) := by show _ = _; rw [spn_all (fun j h => HI.out j h (by omega))]; omega
      go_wp2
      go_ret
      rw [HE.out]
      exact ⟨rfl, rfl⟩
set_option maxHeartbeats 1000000 in
theorem span_digit (l : List UInt8) (hl : l.length ≤ 4611686018427387904) (w : World) : Calls Tryz.prog 90 #[.string (S l), .func (.func 92) #[] #[]] w fun e w' => e = .returned (.int .i64 (spn kD l : Int)) ∧ w' = w := by
  have hz := S_size l
  have HF : Hid (Bt 92 kD) := digit_any
  go_enter Tryz.func90, Tryz.ntmps90
  go_wp2
  go_loopw [5] (fun v5 wr => ∃ i : Nat, v5 = .int .i64 (i : Int) ∧ i ≤ l.length ∧ wr = w ∧ Hid (∀ j (h : j < l.length), j < i → kD l[j] = true)) (fun v5 _ => l.length - (intOf v5).toNat)
  case atStart => exact ⟨0, rfl, Nat.zero_le _, rfl, fun j h hj => by omega⟩
  case round =>
    obtain ⟨i, rfl, hi, rfl, HI⟩ := hrel
    by_cases hlt : i < l.length
    · have hlt' : (i : Int) < (l.length : Int) := by omega
      have hi0 : (0 : Int) ≤ (i : Int) := by omega
      obtain ⟨c, hc⟩ : ∃ c, l[i] = c := ⟨_, rfl⟩
      have hgi : ∀ (h : i < (S l).size), (S l)[i]'h = c := fun h => (S_at l i hlt h).trans hc
      have CF := HF.out c
      cases hp : kD c with
      | true =>
        rw [hp] at CF
        have HN : Hid (∀ j (h : j < l.length), j < i + 1 → kD l[j] = true) := fun j h hj => by
          rcases Nat.lt_succ_iff_lt_or_eq.1 hj with h1 | rfl
          · exact HI.out j h h1
          · rw [hc]; exact hp
        clear hc hp
        go_wp2_with (go_at_call 92; refine (CF _).mono ?_; rintro e w1 ⟨rfl, hw1⟩; rw [hw1]; clear hw1)
        go_roundw
        case rel => exact ⟨i + 1, by simp, by omega, by first | rfl | trivial, HN⟩
        case measure => simp [intOf]; omega
      | false =>
        rw [hp] at CF
        have HE : Hid (spn kD l = i) := spn_go HI.out hlt (by rw [hc]; exact hp)
        clear hc hp
        go_wp2_with (go_at_call 92; refine (CF _).mono ?_; rintro e w1 ⟨rfl, hw1⟩; rw [hw1]; clear hw1)
        go_ret
        rw [HE.out]
        exact ⟨rfl, rfl⟩
    · have hlt' : ¬ (i : Int) < (l.length : Int) := by omega
      have HE : Hid (spn kD l = i) := by show _ = _; rw [spn_all (fun j h => HI.out j h (by omega))]; omega
      go_wp2
      go_ret
      rw [HE.out]
      exact ⟨rfl, rfl⟩
set_option maxHeartbeats 1000000 in
theorem span_word (l : List UInt8) (hl : l.length ≤ 4611686018427387904) (w : World) : Calls Tryz.prog 90 #[.string (S l), .func (.func 96) #[] #[]] w fun e w' => e = .returned (.int .i64 (spn kW l : Int)) ∧ w' = w := by
  have hz := S_size l
  have HF : Hid (Bt 96 kW) := inWord_any
  go_enter Tryz.func90, Tryz.ntmps90
  go_wp2
  go_loopw [5] (fun v5 wr => ∃ i : Nat, v5 = .int .i64 (i : Int) ∧ i ≤ l.length ∧ wr = w ∧ Hid (∀ j (h : j < l.length), j < i → kW l[j] = true)) (fun v5 _ => l.length - (intOf v5).toNat)
  case atStart => exact ⟨0, rfl, Nat.zero_le _, rfl, fun j h hj => by omega⟩
  case round =>
    obtain ⟨i, rfl, hi, rfl, HI⟩ := hrel
    by_cases hlt : i < l.length
    · have hlt' : (i : Int) < (l.length : Int) := by omega
      have hi0 : (0 : Int) ≤ (i : Int) := by omega
      obtain ⟨c, hc⟩ : ∃ c, l[i] = c := ⟨_, rfl⟩
      have hgi : ∀ (h : i < (S l).size), (S l)[i]'h = c := fun h => (S_at l i hlt h).trans hc
      have CF := HF.out c
      cases hp : kW c with
      | true =>
        rw [hp] at CF
        have HN : Hid (∀ j (h : j < l.length), j < i + 1 → kW l[j] = true) := fun j h hj => by
          rcases Nat.lt_succ_iff_lt_or_eq.1 hj with h1 | rfl
          · exact HI.out j h h1
          · rw [hc]; exact hp
        clear hc hp
        go_wp2_with (go_at_call 96; refine (CF _).mono ?_; rintro e w1 ⟨rfl, hw1⟩; rw [hw1]; clear hw1)
        go_roundw
        case rel => exact ⟨i + 1, by simp, by omega, by first | rfl | trivial, HN⟩
        case measure => simp [intOf]; omega
      | false =>
        rw [hp] at CF
        have HE : Hid (spn kW l = i) := spn_go HI.out hlt (by rw [hc]; exact hp)
        clear hc hp
        go_wp2_with (go_at_call 96; refine (CF _).mono ?_; rintro e w1 ⟨rfl, hw1⟩; rw [hw1]; clear hw1)
        go_ret
        rw [HE.out]
        exact ⟨rfl, rfl⟩
    · have hlt' : ¬ (i : Int) < (l.length : Int) := by omega
      have HE : Hid (spn kW l = i) := by show _ = _; rw [spn_all (fun j h => HI.out j h (by omega))]; omega
      go_wp2
      go_ret
      rw [HE.out]
      exact ⟨rfl, rfl⟩
end Go.Proofs.YtpbfdaijnndilaaGreatDoor.x10
namespace Go.Proofs.YtpbfdaijnndilaaGreatDoor.x10
open Go.RowKit Go.Shelf Go.Sort
open Go.Lib hiding intOf

theorem joinG {X Y : Nat → Prop} {a b c : World} (h : Ch X a b) (k : Ch Y b c) (hxy : ∀ x, x < a.heap.size → Y x → X x) : Ch X a c :=
  ⟨k.os.trans h.os, k.tape.trans h.tape, k.output.trans h.output, Nat.le_trans h.size k.size, fun i hi hX => (k.block i (Nat.lt_of_lt_of_le hi h.size) (fun hY => hX (hxy i hi hY))).trans (h.block i hi hX)⟩
/-- a part's cells -/
def pc (p : P10) : List Value := [.int .i64 p.1, .int .i64 p.2.1, .int .i64 p.2.2.1, .int .i64 p.2.2.2.1, .int .i64 p.2.2.2.2.1, .string (S p.2.2.2.2.2)]
def pcs (l : List P10) : List Value := (l.map pc).flatten
theorem pcs_append (a b : List P10) : pcs (a ++ b) = pcs a ++ pcs b := by simp [pcs]
theorem pcs_len (l : List P10) : (pcs l).length = l.length * 6 := by
  induction l with
  | nil => rfl
  | cons p t ih => rw [show pcs (p :: t) = pc p ++ pcs t by simp [pcs], List.length_append, ih, List.length_cons]; simp [pc]; omega
/-- a reader's cells -/
def rcs (s : List UInt8) (st : Rs) (pv : Value) : Array Value := #[.string (S s), .int .i64 st.now.kind, .int .i64 (st.now.at' : Int), .string (S st.now.s), .int .i64 st.now.v.1, .int .i64 st.now.v.2.1, .string (S st.now.v.2.2), .int .i64 (st.beh : Int), .int .i64 (st.nest : Int), pv]
def Ro (w : World) (b : Nat) (a : Array Value) : Prop := w.heap[b]? = some (.cells a 61 (0, 0))
theorem Ro.lt {w : World} {b : Nat} {a : Array Value} (h : Ro w b a) : b < w.heap.size := (Array.getElem?_eq_some_iff.1 h).1
theorem Ro.c {w : World} {b : Nat} {a : Array Value} (h : Ro w b a) (i : Nat) : w.cell? ⟨b, i, none⟩ = a[i]? := by unfold Ro at h; simp [World.cell?, h]
theorem Ro.f {w : World} {b : Nat} {a : Array Value} (h : Ro w b a) (i : Nat) : w.frozen? ⟨b, i, none⟩ = false := by unfold Ro at h; simp [World.frozen?, h]
theorem Ro.set {w : World} {b : Nat} {a : Array Value} (h : Ro w b a) (i : Nat) (v : Value) : Ro (w.setCell ⟨b, i, none⟩ v) b (a.setIfInBounds i v) := heap_setCell_same w b i _ _ v h
theorem Ro.ch {w w' : World} {b : Nat} {a : Array Value} (h : Ro w b a) {X : Nat → Prop} (hc : Ch X w w') (hX : ¬ X b) : Ro w' b a := (hc.block b h.lt hX).trans h
/-- the reader in block b, all that it has from block B on -/
structure Rm (w : World) (B b : Nat) (s : List UInt8) (st : Rs) (pv : Value) : Prop where
  ob : Ro w b (rcs s st pv)
  row : w.ownsRow B 68 6 pv st.parts.length (pcs st.parts)
  ap : pv.ownBlock ≠ some b
  lo : B ≤ b
/-- what a call of a reader's may turn -/
def Fx (b : Nat) (pv : Value) (k : Nat) : Prop := k = b ∨ pv.ownBlock = some k
/-- what a call leaves -/
structure Lf (w : World) (b : Nat) (pv : Value) (w' : World) (pv' : Value) : Prop where
  ch : Ch (Fx b pv) w w'
  nw : ∀ x, pv'.ownBlock = some x → pv.ownBlock = some x ∨ w.heap.size ≤ x
theorem Lf.refl (w : World) (b : Nat) (pv : Value) : Lf w b pv w pv := ⟨Ch.refl _ w, fun _ h => .inl h⟩
theorem Lf.trans {w w' w'' : World} {b : Nat} {pv pv' pv'' : Value} (h : Lf w b pv w' pv') (k : Lf w' b pv' w'' pv'') : Lf w b pv w'' pv'' := by
  have hz := h.ch.size
  refine ⟨joinG h.ch k.ch (fun x hx e => ?_), fun x hx => ?_⟩
  · rcases e with e | e
    · exact .inl e
    · rcases h.nw x e with e | e
      · exact .inr e
      · omega
  · rcases k.nw x hx with e | e
    · exact h.nw x e
    · exact .inr (by omega)
/-- how a call of a reader's ends -/
def Rp (w : World) (B b : Nat) (s : List UInt8) (pv : Value) (r : Ot Rs) (e : Ending) (w' : World) : Prop := match r with
  | .ok st' => e = .returned (.tuple #[]) ∧ ∃ pv', Rm w' B b s st' pv' ∧ Lf w b pv w' pv'
  | .no er a => e = .panicked (wrg er a) ∧ Ch (Fx b pv) w w'
  | .out => True
theorem Rm.ch {w w' : World} {B b : Nat} {s : List UInt8} {st : Rs} {pv : Value} (h : Rm w B b s st pv) {X : Nat → Prop} (hc : Ch X w w') (hX : ∀ k, Fx b pv k → ¬ X k) : Rm w' B b s st pv :=
  ⟨h.ob.ch hc (hX b (.inl rfl)), hc.row h.row (fun k hk e => hX k (.inr hk) e), h.ap, h.lo⟩
theorem Rm.below {w w' : World} {B b : Nat} {s : List UInt8} {st : Rs} {pv : Value} (h : Rm w B b s st pv) (hb : Below w.heap.size w w') : Rm w' B b s st pv := h.ch (X := fun _ => False) (Ch.of_below hb) (fun _ _ => id)

set_option maxHeartbeats 400000 in
theorem refuse_any {w : World} {B b : Nat} {s : List UInt8} {st : Rs} {pv : Value} (h : Rm w B b s st pv) : Calls Tryz.prog 49 #[.pointer (some ⟨b, 0, none⟩)] w fun e w' => e = .panicked (wrg 10 st.now.at') ∧ w' = w := by
  have c2 := h.ob.c 2
  simp only [rcs, List.getElem?_toArray, List.getElem?_cons_zero, List.getElem?_cons_succ] at c2
  have CG := giveUp_any 10 st.now.at'
  go_enter Tryz.func49, Tryz.ntmps49
  go_wp2_with (go_at_call 65; refine (CG _).mono ?_; rintro e w1 ⟨rfl, hw1⟩; rw [hw1]; clear hw1)
  exact ⟨rfl, rfl, rfl⟩
set_option maxHeartbeats 400000 in
theorem last_any {w : World} {B b : Nat} {s : List UInt8} {st : Rs} {pv : Value} (h : Rm w B b s st pv) (hl : st.parts.length ≤ 100) : Calls Tryz.prog 100 #[.pointer (some ⟨b, 0, none⟩)] w fun e w' => e = .returned (.int .i64 (lasP st)) ∧ w' = w := by
  obtain ⟨pa, pcap, rfl, -⟩ := row_slice h.row
  have c9 := h.ob.c 9
  simp only [rcs, List.getElem?_toArray, List.getElem?_cons_zero, List.getElem?_cons_succ] at c9
  unfold lasP
  generalize st.parts.length = n at *
  have hw : IntKind.i64.wrap ((n : Int) - 1) = (n : Int) - 1 := by rw [IntKind.wrap_i64]; omega
  go_enter Tryz.func100, Tryz.ntmps100
  go_wp2
  go_ret
  exact ⟨by simp, rfl⟩
theorem infoPart : (Tryz.prog.info? 68).map (fun i => (i.zero, i.size, i.bytes)) = some (some (.agg #[.int .i64 0, .int .i64 0, .int .i64 0, .int .i64 0, .int .i64 0, .string ⟨#[]⟩]), 6, 56) := by kernel_rfl
theorem six_at {w : World} {x : Nat} {p : P10} (h : ∀ i, w.cell? ⟨x, i, none⟩ = (pc p)[i]?) : ∀ j u, (pc p)[j]? = some u → w.cell? ((⟨x, 0, none⟩ : Addr).add j) = some u := fun j u hj => by
  rw [Addr.add_lit, Nat.zero_add, h j, hj]
theorem six_one (p : P10) : ∀ u ∈ pc p, u.oneCell' = true := fun u hu => by
  simp only [pc, List.mem_cons, List.mem_nil_iff, or_false] at hu
  rcases hu with rfl | rfl | rfl | rfl | rfl | rfl <;> rfl

/-- an append whose run is known, at a step of a region that draws its order -/
theorem step_append_runG {w : World} {ops : Array Oper} {o : Oper} {a : Act} {K : Act → World → Prop} {Q : Exit → Act → World → Prop} {E : Prop} (hgd : o.guard = none) (s x : Operand) (t u : TypeId)
    (ho : o.op = .call { callee := .builtin .append, args := #[s, x], argTypes := #[t, u] }) (v y v' : Value) (w' : World) (hs : a.eval s = v) (hx : a.eval x = y)
    (hr : (Builtin.append_ #[t, u] o.type #[v, y]).run Tryz.prog w = .ok v' w') (h : K (a.put o.dst v') w') :
    if Region.wanted o (yielded ops a.tmps) = true then Oper.wp Tryz.prog o a w K Q else E := by
  have hw : Region.wanted o (yielded ops a.tmps) = true := by simp [Region.wanted, hgd]
  rw [if_pos hw]
  unfold Oper.wp execOp
  simp only [ho, resolve, invoke, builtin, Sem.run_bind, Sem.run_pure, Result.andThen_ok, List.map_toArray, List.map_cons, List.map_nil, hs, hx, hr]
  exact h
theorem drew_ch (w : World) (X : Nat → Prop) : Ch X w w.drew := Ch.of_below (below_drewN (Below.refl w.heap.size w) 1)
theorem put_run {w : World} {B b : Nat} {s : List UInt8} {st : Rs} {pv : Value} (h : Rm w B b s st pv) (hl : st.parts.length ≤ 100) (p : P10) :
    ∃ a1 c1 w1, (Builtin.append_ #[24, 24] 24 #[pv, .slice (some ⟨w.heap.size + 1, 0, none⟩) 1 1]).run Tryz.prog ((w.alloc (.cells (pc p).toArray 68)).alloc (.cells (pc p).toArray 68)).drew = .ok (.slice a1 (st.parts.length + 1) c1) w1 ∧ w1.cell? ⟨b, 9, none⟩ = some pv ∧ w1.frozen? ⟨b, 9, none⟩ = false ∧
      Rm (w1.setCell ⟨b, 9, none⟩ (.slice a1 (st.parts.length + 1) c1)) B b s { st with parts := st.parts ++ [p] } (.slice a1 (st.parts.length + 1) c1) ∧ Lf w b pv (w1.setCell ⟨b, 9, none⟩ (.slice a1 (st.parts.length + 1) c1)) (.slice a1 (st.parts.length + 1) c1) := by
  obtain ⟨i0, hi0, hz0, hz1, hz2⟩ := info_parts infoPart
  obtain ⟨W2, hW2⟩ : ∃ W2, ((w.alloc (.cells (pc p).toArray 68)).alloc (.cells (pc p).toArray 68)).drew = W2 := ⟨_, rfl⟩
  have cA : Ch (fun _ => False) w W2 := by rw [← hW2]; exact (((Ch.refl _ w).alloc _).alloc _).trans (drew_ch _ _)
  have hz : W2.heap.size = w.heap.size + 2 := by rw [← hW2]; simp [World.drew]
  have h2 := h.ch cA (fun _ _ => id)
  have hcell : ∀ i, W2.cell? ⟨w.heap.size + 1, i, none⟩ = (pc p)[i]? := fun i => by
    rw [← hW2]
    have := World.cell?_alloc_new (w.alloc (.cells (pc p).toArray 68)) (pc p).toArray 68 i
    rw [World.size_alloc] at this
    rw [show (((w.alloc (.cells (pc p).toArray 68)).alloc (.cells (pc p).toArray 68)).drew).cell? ⟨w.heap.size + 1, i, none⟩ = ((w.alloc (.cells (pc p).toArray 68)).alloc (.cells (pc p).toArray 68)).cell? ⟨w.heap.size + 1, i, none⟩ from by simp [World.drew, World.cell?], this]
    simp
  rw [hW2]
  have hlt := h.ob.lt
  have hBw : B ≤ W2.heap.size := by have := h.lo; omega
  obtain ⟨v1, w1, r1, r2, r3, -, r5⟩ := run_append_own_at (P := Tryz.prog) (w := W2) B 24 24 68 i0 _ 6 56 Tryz.underlying24 hi0 hz0 hz1 hz2 rfl (by decide) pv st.parts.length _ h2.row ⟨w.heap.size + 1, 0, none⟩ 1 1 (pc p) rfl (six_at hcell) (six_one p) (by unfold maxLen; omega) (by omega) hBw
  have c1 : Ch (fun k => pv.ownBlock = some k) W2 w1 := Ch.of_grown r3 (fun k e _ => e)
  have o1 := h2.ob.ch c1 h.ap
  have c2 : Ch (fun k => k = b) w1 (w1.setCell ⟨b, 9, none⟩ v1) := (Ch.refl _ w1).setCell _ _ (fun _ => rfl)
  have hv1 : ∀ x, v1.ownBlock = some x → pv.ownBlock = some x ∨ x = W2.heap.size := fun x hx => by
    rcases r5 with e | e
    · exact .inl (e ▸ hx)
    · rw [e] at hx; cases hx; exact .inr rfl
  have hvb : v1.ownBlock ≠ some b := fun e => by
    rcases hv1 b e with e2 | e2
    · exact h.ap e2
    · omega
  obtain ⟨a1, k1, rfl, -⟩ := row_slice r2
  refine ⟨a1, k1, w1, r1, (o1.c 9).trans rfl, o1.f 9, ⟨o1.set 9 _, ?_, hvb, h.lo⟩, ⟨?_, fun x hx => ?_⟩⟩
  · rw [List.length_append, List.length_singleton, pcs_append, show pcs [p] = pc p by simp [pcs]]
    exact c2.row r2 (fun x hx e => hvb (e ▸ hx))
  · exact joinG (joinG (cA.mono (fun _ _ h => h.elim)) c1 (fun x _ e => .inr e)) c2 (fun x _ e => .inl e)
  · rcases hv1 x hx with e | e
    · exact .inl e
    · exact .inr (by omega)
theorem agg_part (p : P10) : (Value.agg #[.int .i64 p.1, .int .i64 p.2.1, .int .i64 p.2.2.1, .int .i64 p.2.2.2.1, .int .i64 p.2.2.2.2.1, .string (S p.2.2.2.2.2)]) = .agg (pc p).toArray := rfl
def pA (p : P10) : Value := .agg #[.int .i64 p.1, .int .i64 p.2.1, .int .i64 p.2.2.1, .int .i64 p.2.2.2.1, .int .i64 p.2.2.2.2.1, .string (S p.2.2.2.2.2)]

set_option maxHeartbeats 4000000 in
set_option maxRecDepth 100000 in
theorem put_any {w : World} {B b : Nat} {s : List UInt8} {st : Rs} {pv : Value} (h : Rm w B b s st pv) (hl : st.parts.length ≤ 100) (p : P10) : Calls Tryz.prog 102 #[.pointer (some ⟨b, 0, none⟩), pA p] w (Rp w B b s pv (putP p st)) := by
  obtain ⟨i0, hi0, hz0, hz1, hz2⟩ := info_parts infoPart
  have hlt := h.ob.lt
  have c2 := h.ob.c 2
  have c9 := h.ob.c 9
  have f9 := h.ob.f 9
  simp only [rcs, List.getElem?_toArray, List.getElem?_cons_zero, List.getElem?_cons_succ] at c2 c9
  obtain ⟨pa, pcap, hpv, -⟩ := row_slice h.row
  have HH : Hid (Rm w B b s st pv) := h
  obtain ⟨p1, p2, p3, p4, p5, p6⟩ := p
  unfold pA
  simp only
  by_cases h100 : st.parts.length = 100
  · have HP : Hid (putP (p1, p2, p3, p4, p5, p6) st = .no 13 st.now.at') := if_pos h100
    have hb : ((st.parts.length : Int) == 100) = true := by rw [h100]; rfl
    have CG := giveUp_any 13 st.now.at'
    rw [hpv] at c9
    clear h hl
    generalize st.parts.length = n at *
    subst h100
    go_enter Tryz.func102, Tryz.ntmps102
    go_wp2_with (go_at_call 65; refine (CG _).mono ?_; rintro e w1 ⟨rfl, hw1⟩; rw [hw1]; clear hw1)
    rw [HP.out]
    exact ⟨rfl, rfl, (Ch.refl _ w).alloc _⟩
  · have HP : Hid (putP (p1, p2, p3, p4, p5, p6) st = .ok { st with parts := st.parts ++ [(p1, p2, p3, p4, p5, p6)] }) := if_neg h100
    have hb : ((st.parts.length : Int) == 100) = false := by simp; omega
    have HG : Hid _ := put_run h hl (p1, p2, p3, p4, p5, p6)
    rw [hpv] at c9
    have HPV : Hid (pv = .slice pa st.parts.length pcap) := hpv
    rw [hpv] at HG
    clear h hl hpv
    go_enter Tryz.func102, Tryz.ntmps102
    go_wp2
    go_region_law (obtain ⟨a7, c7, w7, r1, z1, z2, z3, z4⟩ := HG.out; have Z3 : Hid _ := z3; have Z4 : Hid _ := z4; clear z3 z4; refine step_append_runG (by rfl) _ _ _ _ (by rfl) _ _ _ _ (by rfl) (by rfl) r1 ?_)
    all_goals
      rw [HP.out]
      go_end0
      exact ⟨rfl, _, Z3.out, by rw [HPV.out]; exact Z4.out⟩
end Go.Proofs.YtpbfdaijnndilaaGreatDoor.x10

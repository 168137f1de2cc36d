/-
  Package expr: tokens, the reader in memory, the next token.
-/
import Derived.Test.YtkbhngdabfoboaaGreatDoorX10Pure
import Derived.Test.YtkbhngdabfoboaaGreatDoorV9Nam
import Derived.IntWalk
import Derived.WalkLawsBesides
import Derived.Deep.DeepAppendWide
import Derived.Maps.AppendAt
import Derived.Deep.RegionHeld3
import Derived.Deep.RegionLaw
import Derived.Test.YtkbhngdabfoboaaGreatDoorX10Lay
import Derived.Laws.Rows
import Derived.Lib.ParseIntBCases
import Derived.Shelf.Strings.BuilderK
import Derived.Test.YtkbhngdabfoboaaGreatDoorGWire
import Derived.Test.YtkbhngdabfoboaaGreatDoorROrd
namespace Go.Proofs.YtkbhngdabfoboaaGreatDoor.x10
open Go.RowKit Go.Shelf Go.Sort
open Go.Lib hiding intOf

/-- a test of bytes -/
def Bt (f : Nat) (p : UInt8 → Bool) : Prop := ∀ (c : UInt8) (w : World), Calls Tryz.prog f #[.int .u8 (c.toNat : Int)] w fun e w' => e = .returned (.bool (p c)) ∧ w' = w
theorem digit_any : Bt 172 kD := fun c w => by
  unfold kD
  by_cases h1 : 48 ≤ c.toNat
  · have h1' : (48 : Int) ≤ (c.toNat : Int) := by omega
    by_cases h2 : c.toNat ≤ 57
    · have h2' : (c.toNat : Int) ≤ 57 := by omega
      rw [decide_eq_true h1, decide_eq_true h2]
      go_enter Tryz.func172, Tryz.ntmps172
      go_wp2
      go_ret
      exact ⟨rfl, rfl⟩
    · have h2' : ¬ (c.toNat : Int) ≤ 57 := by omega
      rw [decide_eq_true h1, decide_eq_false h2]
      go_enter Tryz.func172, Tryz.ntmps172
      go_wp2
      go_ret
      exact ⟨rfl, rfl⟩
  · have h1' : ¬ (48 : Int) ≤ (c.toNat : Int) := by omega
    rw [decide_eq_false h1]
    go_enter Tryz.func172, Tryz.ntmps172
    go_wp2
    go_ret
    exact ⟨rfl, rfl⟩
theorem letter_any : Bt 174 kA := fun c w => by
  unfold kA
  by_cases h1 : 97 ≤ c.toNat
  · have h1' : (97 : Int) ≤ (c.toNat : Int) := by omega
    by_cases h2 : c.toNat ≤ 122
    · have h2' : (c.toNat : Int) ≤ 122 := by omega
      rw [decide_eq_true h1, decide_eq_true h2]
      go_enter Tryz.func174, Tryz.ntmps174
      go_wp2
      go_ret
      exact ⟨rfl, rfl⟩
    · have h2' : ¬ (c.toNat : Int) ≤ 122 := by omega
      rw [decide_eq_true h1, decide_eq_false h2]
      go_enter Tryz.func174, Tryz.ntmps174
      go_wp2
      go_ret
      exact ⟨rfl, rfl⟩
  · have h1' : ¬ (97 : Int) ≤ (c.toNat : Int) := by omega
    rw [decide_eq_false h1]
    go_enter Tryz.func174, Tryz.ntmps174
    go_wp2
    go_ret
    exact ⟨rfl, rfl⟩
theorem blank_any : Bt 171 kB := fun c w => by
  unfold kB
  cases h1 : c.toNat == 32 with
  | true =>
    have h1' : ((c.toNat : Int) == 32) = true := by simp at h1 ⊢; omega
    go_enter Tryz.func171, Tryz.ntmps171
    go_wp2
    go_ret
    exact ⟨rfl, rfl⟩
  | false =>
    have h1' : ((c.toNat : Int) == 32) = false := by simp at h1 ⊢; omega
    cases h2 : c.toNat == 9 with
    | true =>
      have h2' : ((c.toNat : Int) == 9) = true := by simp at h2 ⊢; omega
      clear h1 h2
      go_enter Tryz.func171, Tryz.ntmps171
      go_wp2
      go_ret
      exact ⟨rfl, rfl⟩
    | false =>
      have h2' : ((c.toNat : Int) == 9) = false := by simp at h2 ⊢; omega
      cases h3 : c.toNat == 10 with
      | true =>
        have h3' : ((c.toNat : Int) == 10) = true := by simp at h3 ⊢; omega
        clear h1 h2 h3
        go_enter Tryz.func171, Tryz.ntmps171
        go_wp2
        go_ret
        exact ⟨rfl, rfl⟩
      | false =>
        have h3' : ((c.toNat : Int) == 10) = false := by simp at h3 ⊢; omega
        clear h1 h2 h3
        go_enter Tryz.func171, Tryz.ntmps171
        go_wp2
        go_ret
        exact ⟨rfl, rfl⟩
theorem inWord_any : Bt 176 kW := fun c w => by
  unfold kW
  have CL := letter_any c
  have CD := digit_any c
  cases h1 : kA c with
  | true =>
    rw [h1] at CL
    go_enter Tryz.func176, Tryz.ntmps176
    go_wp2_with (first
      | (go_at_call 174; refine (CL _).mono ?_; rintro e w1 ⟨rfl, hw1⟩; rw [hw1]; clear hw1)
      | (go_at_call 172; refine (CD _).mono ?_; rintro e w2 ⟨rfl, hw2⟩; rw [hw2]; clear hw2))
    go_ret
    exact ⟨rfl, rfl⟩
  | false =>
    rw [h1] at CL
    cases h2 : kD c with
    | true =>
      rw [h2] at CD
      go_enter Tryz.func176, Tryz.ntmps176
      go_wp2_with (first
        | (go_at_call 174; refine (CL _).mono ?_; rintro e w1 ⟨rfl, hw1⟩; rw [hw1]; clear hw1)
        | (go_at_call 172; refine (CD _).mono ?_; rintro e w2 ⟨rfl, hw2⟩; rw [hw2]; clear hw2))
      go_ret
      exact ⟨rfl, rfl⟩
    | false =>
      rw [h2] at CD
      have h3 : ((c.toNat : Int) == 95) = (c.toNat == 95) := by
        cases h : c.toNat == 95
        · simp at h ⊢; omega
        · simp at h ⊢; omega
      go_enter Tryz.func176, Tryz.ntmps176
      go_wp2_with (first
        | (go_at_call 174; refine (CL _).mono ?_; rintro e w1 ⟨rfl, hw1⟩; rw [hw1]; clear hw1)
        | (go_at_call 172; refine (CD _).mono ?_; rintro e w2 ⟨rfl, hw2⟩; rw [hw2]; clear hw2))
      go_ret
      exact ⟨by simp, rfl⟩
/-- what giving up is -/
def wrg (e a : Int) : List PanicEntry := [{ v := .iface 160 (.agg #[.int .i64 e, .int .i64 a]), recovered := false }]
theorem giveUp_any (e a : Int) (w : World) : Calls Tryz.prog 183 #[.int .i64 e, .int .i64 a] w fun r w' => r = .panicked (wrg e a) ∧ w' = w := by
  go_enter Tryz.func183, Tryz.ntmps183
  go_wp2
  exact ⟨rfl, rfl, rfl⟩
theorem spn_le (p : UInt8 → Bool) (l : List UInt8) : spn p l ≤ l.length := by
  unfold spn
  have := (List.takeWhile_prefix (l := l) p).length_le
  exact this
/-- so far all are so; the next one is asked -/
theorem spn_go {p : UInt8 → Bool} : ∀ {l : List UInt8} {i : Nat}, (∀ j (h : j < l.length), j < i → p l[j] = true) → (h : i < l.length) → p l[i] = false → spn p l = i
  | c :: t, 0, _, _, hn => by unfold spn; rw [List.takeWhile_cons_of_neg (by simpa using hn)]; rfl
  | c :: t, i + 1, hp, h, hn => by
    have h0 : p c = true := hp 0 (by simp) (by omega)
    have ih := spn_go (p := p) (l := t) (i := i) (fun j hj hji => hp (j + 1) (by simp; omega) (by omega)) (by simpa using h) (by simpa using hn)
    unfold spn at ih ⊢
    rw [List.takeWhile_cons_of_pos h0, List.length_cons, ih]
theorem spn_all {p : UInt8 → Bool} : ∀ {l : List UInt8}, (∀ j (h : j < l.length), p l[j] = true) → spn p l = l.length
  | [], _ => rfl
  | c :: t, hp => by
    have h0 : p c = true := hp 0 (by simp)
    have ih := spn_all (p := p) (l := t) (fun j hj => hp (j + 1) (by simp; omega))
    unfold spn at ih ⊢
    rw [List.takeWhile_cons_of_pos h0, List.length_cons, ih, List.length_cons]
theorem S_at (l : List UInt8) (i : Nat) (h : i < l.length) (h' : i < (S l).size) : (S l)[i]'h' = l[i]'h := by simp [S, ByteArray.getElem_eq_getElem_data]

set_option maxHeartbeats 1000000 in
theorem span_blank (l : List UInt8) (hl : l.length ≤ 4611686018427387904) (w : World) : Calls Tryz.prog 170 #[.string (S l), .func (.func 171) #[] #[]] w fun e w' => e = .returned (.int .i64 (spn kB l : Int)) ∧ w' = w := by
  have hz := S_size l
  have HF : Hid (Bt 171 kB) := blank_any
  go_enter Tryz.func170, Tryz.ntmps170
  go_wp2
  go_loopw [5] (fun v5 wr => ∃ i : Nat, v5 = .int .i64 (i : Int) ∧ i ≤ l.length ∧ wr = w ∧ Hid (∀ j (h : j < l.length), j < i → kB l[j] = true)) (fun v5 _ => l.length - (intOf v5).toNat)
  case atStart => exact ⟨0, rfl, Nat.zero_le _, rfl, fun j h hj => by omega⟩
  case round =>
    obtain ⟨i, rfl, hi, rfl, HI⟩ := hrel
    by_cases hlt : i < l.length
    · have hlt' : (i : Int) < (l.length : Int) := by omega
      have hi0 : (0 : Int) ≤ (i : Int) := by omega
      obtain ⟨c, hc⟩ : ∃ c, l[i] = c := ⟨_, rfl⟩
      have hgi : ∀ (h : i < (S l).size), (S l)[i]'h = c := fun h => (S_at l i hlt h).trans hc
      have CF := HF.out c
      cases hp : kB c with
      | true =>
        rw [hp] at CF
        have HN : Hid (∀ j (h : j < l.length), j < i + 1 → kB l[j] = true) := fun j h hj => by
          rcases Nat.lt_succ_iff_lt_or_eq.1 hj with h1 | rfl
          · exact HI.out j h h1
          · rw [hc]; exact hp
        clear hc hp
        go_wp2_with (go_at_call 171; refine (CF _).mono ?_; rintro e w1 ⟨rfl, hw1⟩; rw [hw1]; clear hw1)
        go_roundw
        case rel => exact ⟨i + 1, by simp, by omega, by first | rfl | trivial, HN⟩
        case measure => simp [intOf]; omega
      | false =>
        rw [hp] at CF
        have HE : Hid (spn kB l = i) := spn_go HI.out hlt (by rw [hc]; exact hp)
        clear hc hp
        go_wp2_with (go_at_call 171; refine (CF _).mono ?_; rintro e w1 ⟨rfl, hw1⟩; rw [hw1]; clear hw1)
        go_ret
        rw [HE.out]
        exact ⟨rfl, rfl⟩
    · have hlt' : ¬ (i : Int) < (l.length : Int) := by omega
      have HE : Hid (spn kB l = i) := by show _ = _; rw [spn_all (fun j h => HI.out j h (by omega))]; omega
      go_wp2
      go_ret
      rw [HE.out]
      exact ⟨rfl, rfl⟩
set_option maxHeartbeats 1000000 in
theorem span_digit (l : List UInt8) (hl : l.length ≤ 4611686018427387904) (w : World) : Calls Tryz.prog 170 #[.string (S l), .func (.func 172) #[] #[]] w fun e w' => e = .returned (.int .i64 (spn kD l : Int)) ∧ w' = w := by
  have hz := S_size l
  have HF : Hid (Bt 172 kD) := digit_any
  go_enter Tryz.func170, Tryz.ntmps170
  go_wp2
  go_loopw [5] (fun v5 wr => ∃ i : Nat, v5 = .int .i64 (i : Int) ∧ i ≤ l.length ∧ wr = w ∧ Hid (∀ j (h : j < l.length), j < i → kD l[j] = true)) (fun v5 _ => l.length - (intOf v5).toNat)
  case atStart => exact ⟨0, rfl, Nat.zero_le _, rfl, fun j h hj => by omega⟩
  case round =>
    obtain ⟨i, rfl, hi, rfl, HI⟩ := hrel
    by_cases hlt : i < l.length
    · have hlt' : (i : Int) < (l.length : Int) := by omega
      have hi0 : (0 : Int) ≤ (i : Int) := by omega
      obtain ⟨c, hc⟩ : ∃ c, l[i] = c := ⟨_, rfl⟩
      have hgi : ∀ (h : i < (S l).size), (S l)[i]'h = c := fun h => (S_at l i hlt h).trans hc
      have CF := HF.out c
      cases hp : kD c with
      | true =>
        rw [hp] at CF
        have HN : Hid (∀ j (h : j < l.length), j < i + 1 → kD l[j] = true) := fun j h hj => by
          rcases Nat.lt_succ_iff_lt_or_eq.1 hj with h1 | rfl
          · exact HI.out j h h1
          · rw [hc]; exact hp
        clear hc hp
        go_wp2_with (go_at_call 172; refine (CF _).mono ?_; rintro e w1 ⟨rfl, hw1⟩; rw [hw1]; clear hw1)
        go_roundw
        case rel => exact ⟨i + 1, by simp, by omega, by first | rfl | trivial, HN⟩
        case measure => simp [intOf]; omega
      | false =>
        rw [hp] at CF
        have HE : Hid (spn kD l = i) := spn_go HI.out hlt (by rw [hc]; exact hp)
        clear hc hp
        go_wp2_with (go_at_call 172; refine (CF _).mono ?_; rintro e w1 ⟨rfl, hw1⟩; rw [hw1]; clear hw1)
        go_ret
        rw [HE.out]
        exact ⟨rfl, rfl⟩
    · have hlt' : ¬ (i : Int) < (l.length : Int) := by omega
      have HE : Hid (spn kD l = i) := by show _ = _; rw [spn_all (fun j h => HI.out j h (by omega))]; omega
      go_wp2
      go_ret
      rw [HE.out]
      exact ⟨rfl, rfl⟩
set_option maxHeartbeats 1000000 in
theorem span_word (l : List UInt8) (hl : l.length ≤ 4611686018427387904) (w : World) : Calls Tryz.prog 170 #[.string (S l), .func (.func 176) #[] #[]] w fun e w' => e = .returned (.int .i64 (spn kW l : Int)) ∧ w' = w := by
  have hz := S_size l
  have HF : Hid (Bt 176 kW) := inWord_any
  go_enter Tryz.func170, Tryz.ntmps170
  go_wp2
  go_loopw [5] (fun v5 wr => ∃ i : Nat, v5 = .int .i64 (i : Int) ∧ i ≤ l.length ∧ wr = w ∧ Hid (∀ j (h : j < l.length), j < i → kW l[j] = true)) (fun v5 _ => l.length - (intOf v5).toNat)
  case atStart => exact ⟨0, rfl, Nat.zero_le _, rfl, fun j h hj => by omega⟩
  case round =>
    obtain ⟨i, rfl, hi, rfl, HI⟩ := hrel
    by_cases hlt : i < l.length
    · have hlt' : (i : Int) < (l.length : Int) := by omega
      have hi0 : (0 : Int) ≤ (i : Int) := by omega
      obtain ⟨c, hc⟩ : ∃ c, l[i] = c := ⟨_, rfl⟩
      have hgi : ∀ (h : i < (S l).size), (S l)[i]'h = c := fun h => (S_at l i hlt h).trans hc
      have CF := HF.out c
      cases hp : kW c with
      | true =>
        rw [hp] at CF
        have HN : Hid (∀ j (h : j < l.length), j < i + 1 → kW l[j] = true) := fun j h hj => by
          rcases Nat.lt_succ_iff_lt_or_eq.1 hj with h1 | rfl
          · exact HI.out j h h1
          · rw [hc]; exact hp
        clear hc hp
        go_wp2_with (go_at_call 176; refine (CF _).mono ?_; rintro e w1 ⟨rfl, hw1⟩; rw [hw1]; clear hw1)
        go_roundw
        case rel => exact ⟨i + 1, by simp, by omega, by first | rfl | trivial, HN⟩
        case measure => simp [intOf]; omega
      | false =>
        rw [hp] at CF
        have HE : Hid (spn kW l = i) := spn_go HI.out hlt (by rw [hc]; exact hp)
        clear hc hp
        go_wp2_with (go_at_call 176; refine (CF _).mono ?_; rintro e w1 ⟨rfl, hw1⟩; rw [hw1]; clear hw1)
        go_ret
        rw [HE.out]
        exact ⟨rfl, rfl⟩
    · have hlt' : ¬ (i : Int) < (l.length : Int) := by omega
      have HE : Hid (spn kW l = i) := by show _ = _; rw [spn_all (fun j h => HI.out j h (by omega))]; omega
      go_wp2
      go_ret
      rw [HE.out]
      exact ⟨rfl, rfl⟩
end Go.Proofs.YtkbhngdabfoboaaGreatDoor.x10
namespace Go.Proofs.YtkbhngdabfoboaaGreatDoor.x10
open Go.RowKit Go.Shelf Go.Sort
open Go.Lib hiding intOf

theorem joinG {X Y : Nat → Prop} {a b c : World} (h : Ch X a b) (k : Ch Y b c) (hxy : ∀ x, x < a.heap.size → Y x → X x) : Ch X a c :=
  ⟨k.os.trans h.os, k.tape.trans h.tape, k.output.trans h.output, Nat.le_trans h.size k.size, fun i hi hX => (k.block i (Nat.lt_of_lt_of_le hi h.size) (fun hY => hX (hxy i hi hY))).trans (h.block i hi hX)⟩
/-- a part's cells -/
def pc (p : P10) : List Value := [.int .i64 p.1, .int .i64 p.2.1, .int .i64 p.2.2.1, .int .i64 p.2.2.2.1, .int .i64 p.2.2.2.2.1, .string (S p.2.2.2.2.2)]
def pcs (l : List P10) : List Value := (l.map pc).flatten
theorem pcs_append (a b : List P10) : pcs (a ++ b) = pcs a ++ pcs b := by simp [pcs]
theorem pcs_len (l : List P10) : (pcs l).length = l.length * 6 := by
  induction l with
  | nil => rfl
  | cons p t ih => rw [show pcs (p :: t) = pc p ++ pcs t by simp [pcs], List.length_append, ih, List.length_cons]; simp [pc]; omega
/-- a reader's cells -/
def rcs (s : List UInt8) (st : Rs) (pv : Value) : Array Value := #[.string (S s), .int .i64 st.now.kind, .int .i64 (st.now.at' : Int), .string (S st.now.s), .int .i64 st.now.v.1, .int .i64 st.now.v.2.1, .string (S st.now.v.2.2), .int .i64 (st.beh : Int), .int .i64 (st.nest : Int), pv]
def Ro (w : World) (b : Nat) (a : Array Value) : Prop := w.heap[b]? = some (.cells a 158 (0, 0))
theorem Ro.lt {w : World} {b : Nat} {a : Array Value} (h : Ro w b a) : b < w.heap.size := (Array.getElem?_eq_some_iff.1 h).1
theorem Ro.c {w : World} {b : Nat} {a : Array Value} (h : Ro w b a) (i : Nat) : w.cell? ⟨b, i, none⟩ = a[i]? := by unfold Ro at h; simp [World.cell?, h]
theorem Ro.f {w : World} {b : Nat} {a : Array Value} (h : Ro w b a) (i : Nat) : w.frozen? ⟨b, i, none⟩ = false := by unfold Ro at h; simp [World.frozen?, h]
theorem Ro.set {w : World} {b : Nat} {a : Array Value} (h : Ro w b a) (i : Nat) (v : Value) : Ro (w.setCell ⟨b, i, none⟩ v) b (a.setIfInBounds i v) := heap_setCell_same w b i _ _ v h
theorem Ro.ch {w w' : World} {b : Nat} {a : Array Value} (h : Ro w b a) {X : Nat → Prop} (hc : Ch X w w') (hX : ¬ X b) : Ro w' b a := (hc.block b h.lt hX).trans h
/-- the reader in block b, all that it has from block B on -/
structure Rm (w : World) (B b : Nat) (s : List UInt8) (st : Rs) (pv : Value) : Prop where
  ob : Ro w b (rcs s st pv)
  row : w.ownsRow B 192 6 pv st.parts.length (pcs st.parts)
  ap : pv.ownBlock ≠ some b
  lo : B ≤ b
/-- what a call of a reader's may turn -/
def Fx (b : Nat) (pv : Value) (k : Nat) : Prop := k = b ∨ pv.ownBlock = some k
/-- what a call leaves -/
structure Lf (w : World) (b : Nat) (pv : Value) (w' : World) (pv' : Value) : Prop where
  ch : Ch (Fx b pv) w w'
  nw : ∀ x, pv'.ownBlock = some x → pv.ownBlock = some x ∨ w.heap.size ≤ x
theorem Lf.refl (w : World) (b : Nat) (pv : Value) : Lf w b pv w pv := ⟨Ch.refl _ w, fun _ h => .inl h⟩
theorem Lf.trans {w w' w'' : World} {b : Nat} {pv pv' pv'' : Value} (h : Lf w b pv w' pv') (k : Lf w' b pv' w'' pv'') : Lf w b pv w'' pv'' := by
  have hz := h.ch.size
  refine ⟨joinG h.ch k.ch (fun x hx e => ?_), fun x hx => ?_⟩
  · rcases e with e | e
    · exact .inl e
    · rcases h.nw x e with e | e
      · exact .inr e
      · omega
  · rcases k.nw x hx with e | e
    · exact h.nw x e
    · exact .inr (by omega)
/-- how a call of a reader's ends -/
def Rp (w : World) (B b : Nat) (s : List UInt8) (pv : Value) (r : Ot Rs) (e : Ending) (w' : World) : Prop := match r with
  | .ok st' => e = .returned (.tuple #[]) ∧ ∃ pv', Rm w' B b s st' pv' ∧ Lf w b pv w' pv'
  | .no er a => e = .panicked (wrg er a) ∧ Ch (Fx b pv) w w'
  | .out => True
theorem Rm.ch {w w' : World} {B b : Nat} {s : List UInt8} {st : Rs} {pv : Value} (h : Rm w B b s st pv) {X : Nat → Prop} (hc : Ch X w w') (hX : ∀ k, Fx b pv k → ¬ X k) : Rm w' B b s st pv :=
  ⟨h.ob.ch hc (hX b (.inl rfl)), hc.row h.row (fun k hk e => hX k (.inr hk) e), h.ap, h.lo⟩
theorem Rm.below {w w' : World} {B b : Nat} {s : List UInt8} {st : Rs} {pv : Value} (h : Rm w B b s st pv) (hb : Below w.heap.size w w') : Rm w' B b s st pv := h.ch (X := fun _ => False) (Ch.of_below hb) (fun _ _ => id)

set_option maxHeartbeats 400000 in
theorem refuse_any {w : World} {B b : Nat} {s : List UInt8} {st : Rs} {pv : Value} (h : Rm w B b s st pv) : Calls Tryz.prog 163 #[.pointer (some ⟨b, 0, none⟩)] w fun e w' => e = .panicked (wrg 10 st.now.at') ∧ w' = w := by
  have c2 := h.ob.c 2
  simp only [rcs, List.getElem?_toArray, List.getElem?_cons_zero, List.getElem?_cons_succ] at c2
  have CG := giveUp_any 10 st.now.at'
  go_enter Tryz.func163, Tryz.ntmps163
  go_wp2_with (go_at_call 183; refine (CG _).mono ?_; rintro e w1 ⟨rfl, hw1⟩; rw [hw1]; clear hw1)
  exact ⟨rfl, rfl, rfl⟩
set_option maxHeartbeats 400000 in
theorem last_any {w : World} {B b : Nat} {s : List UInt8} {st : Rs} {pv : Value} (h : Rm w B b s st pv) (hl : st.parts.length ≤ 100) : Calls Tryz.prog 180 #[.pointer (some ⟨b, 0, none⟩)] w fun e w' => e = .returned (.int .i64 (lasP st)) ∧ w' = w := by
  obtain ⟨pa, pcap, rfl, -⟩ := row_slice h.row
  have c9 := h.ob.c 9
  simp only [rcs, List.getElem?_toArray, List.getElem?_cons_zero, List.getElem?_cons_succ] at c9
  unfold lasP
  generalize st.parts.length = n at *
  have hw : IntKind.i64.wrap ((n : Int) - 1) = (n : Int) - 1 := by rw [IntKind.wrap_i64]; omega
  go_enter Tryz.func180, Tryz.ntmps180
  go_wp2
  go_ret
  exact ⟨by simp, rfl⟩
theorem infoPart : (Tryz.prog.info? 192).map (fun i => (i.zero, i.size, i.bytes)) = some (some (.agg #[.int .i64 0, .int .i64 0, .int .i64 0, .int .i64 0, .int .i64 0, .string ⟨#[]⟩]), 6, 56) := by kernel_rfl
theorem six_at {w : World} {x : Nat} {p : P10} (h : ∀ i, w.cell? ⟨x, i, none⟩ = (pc p)[i]?) : ∀ j u, (pc p)[j]? = some u → w.cell? ((⟨x, 0, none⟩ : Addr).add j) = some u := fun j u hj => by
  rw [Addr.add_lit, Nat.zero_add, h j, hj]
theorem six_one (p : P10) : ∀ u ∈ pc p, u.oneCell' = true := fun u hu => by
  simp only [pc, List.mem_cons, List.mem_nil_iff, or_false] at hu
  rcases hu with rfl | rfl | rfl | rfl | rfl | rfl <;> rfl

/-- an append whose run is known, at a step of a region that draws its order -/
theorem step_append_runG {w : World} {ops : Array Oper} {o : Oper} {a : Act} {K : Act → World → Prop} {Q : Exit → Act → World → Prop} {E : Prop} (hgd : o.guard = none) (s x : Operand) (t u : TypeId)
    (ho : o.op = .call { callee := .builtin .append, args := #[s, x], argTypes := #[t, u] }) (v y v' : Value) (w' : World) (hs : a.eval s = v) (hx : a.eval x = y)
    (hr : (Builtin.append_ #[t, u] o.type #[v, y]).run Tryz.prog w = .ok v' w') (h : K (a.put o.dst v') w') :
    if Region.wanted o (yielded ops a.tmps) = true then Oper.wp Tryz.prog o a w K Q else E := by
  have hw : Region.wanted o (yielded ops a.tmps) = true := by simp [Region.wanted, hgd]
  rw [if_pos hw]
  unfold Oper.wp execOp
  simp only [ho, resolve, invoke, builtin, Sem.run_bind, Sem.run_pure, Result.andThen_ok, List.map_toArray, List.map_cons, List.map_nil, hs, hx, hr]
  exact h
theorem drew_ch (w : World) (X : Nat → Prop) : Ch X w w.drew := Ch.of_below (below_drewN (Below.refl w.heap.size w) 1)
theorem put_run {w : World} {B b : Nat} {s : List UInt8} {st : Rs} {pv : Value} (h : Rm w B b s st pv) (hl : st.parts.length ≤ 100) (p : P10) :
    ∃ a1 c1 w1, (Builtin.append_ #[117, 117] 117 #[pv, .slice (some ⟨w.heap.size + 1, 0, none⟩) 1 1]).run Tryz.prog ((w.alloc (.cells (pc p).toArray 192)).alloc (.cells (pc p).toArray 192)).drew = .ok (.slice a1 (st.parts.length + 1) c1) w1 ∧ w1.cell? ⟨b, 9, none⟩ = some pv ∧ w1.frozen? ⟨b, 9, none⟩ = false ∧
      Rm (w1.setCell ⟨b, 9, none⟩ (.slice a1 (st.parts.length + 1) c1)) B b s { st with parts := st.parts ++ [p] } (.slice a1 (st.parts.length + 1) c1) ∧ Lf w b pv (w1.setCell ⟨b, 9, none⟩ (.slice a1 (st.parts.length + 1) c1)) (.slice a1 (st.parts.length + 1) c1) := by
  obtain ⟨i0, hi0, hz0, hz1, hz2⟩ := info_parts infoPart
  obtain ⟨W2, hW2⟩ : ∃ W2, ((w.alloc (.cells (pc p).toArray 192)).alloc (.cells (pc p).toArray 192)).drew = W2 := ⟨_, rfl⟩
  have cA : Ch (fun _ => False) w W2 := by rw [← hW2]; exact (((Ch.refl _ w).alloc _).alloc _).trans (drew_ch _ _)
  have hz : W2.heap.size = w.heap.size + 2 := by rw [← hW2]; simp [World.drew]
  have h2 := h.ch cA (fun _ _ => id)
  have hcell : ∀ i, W2.cell? ⟨w.heap.size + 1, i, none⟩ = (pc p)[i]? := fun i => by
    rw [← hW2]
    have := World.cell?_alloc_new (w.alloc (.cells (pc p).toArray 192)) (pc p).toArray 192 i
    rw [World.size_alloc] at this
    rw [show (((w.alloc (.cells (pc p).toArray 192)).alloc (.cells (pc p).toArray 192)).drew).cell? ⟨w.heap.size + 1, i, none⟩ = ((w.alloc (.cells (pc p).toArray 192)).alloc (.cells (pc p).toArray 192)).cell? ⟨w.heap.size + 1, i, none⟩ from by simp [World.drew, World.cell?], this]
    simp
  rw [hW2]
  have hlt := h.ob.lt
  have hBw : B ≤ W2.heap.size := by have := h.lo; omega
  obtain ⟨v1, w1, r1, r2, r3, -, r5⟩ := run_append_own_at (P := Tryz.prog) (w := W2) B 117 117 192 i0 _ 6 56 Tryz.underlying117 hi0 hz0 hz1 hz2 rfl (by decide) pv st.parts.length _ h2.row ⟨w.heap.size + 1, 0, none⟩ 1 1 (pc p) rfl (six_at hcell) (six_one p) (by unfold maxLen; omega) (by omega) hBw
  have c1 : Ch (fun k => pv.ownBlock = some k) W2 w1 := Ch.of_grown r3 (fun k e _ => e)
  have o1 := h2.ob.ch c1 h.ap
  have c2 : Ch (fun k => k = b) w1 (w1.setCell ⟨b, 9, none⟩ v1) := (Ch.refl _ w1).setCell _ _ (fun _ => rfl)
  have hv1 : ∀ x, v1.ownBlock = some x → pv.ownBlock = some x ∨ x = W2.heap.size := fun x hx => by
    rcases r5 with e | e
    · exact .inl (e ▸ hx)
    · rw [e] at hx; cases hx; exact .inr rfl
  have hvb : v1.ownBlock ≠ some b := fun e => by
    rcases hv1 b e with e2 | e2
    · exact h.ap e2
    · omega
  obtain ⟨a1, k1, rfl, -⟩ := row_slice r2
  refine ⟨a1, k1, w1, r1, (o1.c 9).trans rfl, o1.f 9, ⟨o1.set 9 _, ?_, hvb, h.lo⟩, ⟨?_, fun x hx => ?_⟩⟩
  · rw [List.length_append, List.length_singleton, pcs_append, show pcs [p] = pc p by simp [pcs]]
    exact c2.row r2 (fun x hx e => hvb (e ▸ hx))
  · exact joinG (joinG (cA.mono (fun _ _ h => h.elim)) c1 (fun x _ e => .inr e)) c2 (fun x _ e => .inl e)
  · rcases hv1 x hx with e | e
    · exact .inl e
    · exact .inr (by omega)
theorem agg_part (p : P10) : (Value.agg #[.int .i64 p.1, .int .i64 p.2.1, .int .i64 p.2.2.1, .int .i64 p.2.2.2.1, .int .i64 p.2.2.2.2.1, .string (S p.2.2.2.2.2)]) = .agg (pc p).toArray := rfl
def pA (p : P10) : Value := .agg #[.int .i64 p.1, .int .i64 p.2.1, .int .i64 p.2.2.1, .int .i64 p.2.2.2.1, .int .i64 p.2.2.2.2.1, .string (S p.2.2.2.2.2)]

set_option maxHeartbeats 4000000 in
set_option maxRecDepth 100000 in
theorem put_any {w : World} {B b : Nat} {s : List UInt8} {st : Rs} {pv : Value} (h : Rm w B b s st pv) (hl : st.parts.length ≤ 100) (p : P10) : Calls Tryz.prog 182 #[.pointer (some ⟨b, 0, none⟩), pA p] w (Rp w B b s pv (putP p st)) := by
  obtain ⟨i0, hi0, hz0, hz1, hz2⟩ := info_parts infoPart
  have hlt := h.ob.lt
  have c2 := h.ob.c 2
  have c9 := h.ob.c 9
  have f9 := h.ob.f 9
  simp only [rcs, List.getElem?_toArray, List.getElem?_cons_zero, List.getElem?_cons_succ] at c2 c9
  obtain ⟨pa, pcap, hpv, -⟩ := row_slice h.row
  have HH : Hid (Rm w B b s st pv) := h
  obtain ⟨p1, p2, p3, p4, p5, p6⟩ := p
  unfold pA
  simp only
  by_cases h100 : st.parts.length = 100
  · have HP : Hid (putP (p1, p2, p3, p4, p5, p6) st = .no 13 st.now.at') := if_pos h100
    have hb : ((st.parts.length : Int) == 100) = true := by rw [h100]; rfl
    have CG := giveUp_any 13 st.now.at'
    rw [hpv] at c9
    clear h hl
    generalize st.parts.length = n at *
    subst h100
    go_enter Tryz.func182, Tryz.ntmps182
    go_wp2_with (go_at_call 183; refine (CG _).mono ?_; rintro e w1 ⟨rfl, hw1⟩; rw [hw1]; clear hw1)
    rw [HP.out]
    exact ⟨rfl, rfl, (Ch.refl _ w).alloc _⟩
  · have HP : Hid (putP (p1, p2, p3, p4, p5, p6) st = .ok { st with parts := st.parts ++ [(p1, p2, p3, p4, p5, p6)] }) := if_neg h100
    have hb : ((st.parts.length : Int) == 100) = false := by simp; omega
    have HG : Hid _ := put_run h hl (p1, p2, p3, p4, p5, p6)
    rw [hpv] at c9
    have HPV : Hid (pv = .slice pa st.parts.length pcap) := hpv
    rw [hpv] at HG
    clear h hl hpv
    go_enter Tryz.func182, Tryz.ntmps182
    go_wp2
    go_region_law (obtain ⟨a7, c7, w7, r1, z1, z2, z3, z4⟩ := HG.out; have Z3 : Hid _ := z3; have Z4 : Hid _ := z4; clear z3 z4; refine step_append_runG (by rfl) _ _ _ _ (by rfl) _ _ _ _ (by rfl) (by rfl) r1 ?_)
    all_goals
      rw [HP.out]
      go_end0
      exact ⟨rfl, _, Z3.out, by rw [HPV.out]; exact Z4.out⟩
end Go.Proofs.YtkbhngdabfoboaaGreatDoor.x10
namespace Go.Proofs.YtkbhngdabfoboaaGreatDoor.x10
open Go.RowKit Go.Shelf Go.Sort
open Go.Lib hiding intOf

/-- cells of the reader's own were set -/
theorem Rm.sets {w w' : World} {B b : Nat} {s : List UInt8} {st st' : Rs} {pv : Value} (h : Rm w B b s st pv) (c : Ch (fun k => k = b) w w') (ho : Ro w' b (rcs s st' pv)) (hp : st'.parts = st.parts) : Rm w' B b s st' pv ∧ Lf w b pv w' pv :=
  ⟨⟨ho, by rw [hp]; exact c.row h.row (fun k hk e => h.ap (e ▸ hk)), h.ap, h.lo⟩, ⟨c.mono (fun _ _ e => .inl e), fun _ hx => .inl hx⟩⟩
theorem chAt {w u : World} {b : Nat} (h : Ch (fun k => k = b) w u) (i : Nat) (v : Value) : Ch (fun k => k = b) w (u.setCell ⟨b, i, none⟩ v) := h.setCell _ _ (fun _ => rfl)
theorem chRe (w : World) (b : Nat) : Ch (fun k => k = b) w w := Ch.refl _ w
theorem S_data (l : List UInt8) : (S l).data.toList = l := by simp [S]

set_option maxHeartbeats 1000000 in
theorem reserved_any (a : ByteArray) (w : World) : Calls Tryz.prog 192 #[.string a] w fun e w' => e = .returned (.bool (wds.contains a.data.toList)) ∧ w' = w := by
  cases h : wds.contains a.data.toList with
  | true =>
    rcases word_lit h with rfl | rfl | rfl | rfl | rfl | rfl
    all_goals
      clear h
      go_enter Tryz.func192, Tryz.ntmps192
      go_wp2
      go_ret
      exact ⟨rfl, rfl⟩
  | false =>
    simp only [wds, List.contains_cons, Bool.or_eq_false_iff, beq_eq_false_iff_ne] at h
    obtain ⟨h1, h2, h3, h4, h5, h6, -⟩ := h
    have c1 := beq_lit h1
    have c2 := beq_lit h2
    have c3 := beq_lit h3
    have c4 := beq_lit h4
    have c5 := beq_lit h5
    have c6 := beq_lit h6
    clear h1 h2 h3 h4 h5 h6
    go_enter Tryz.func192, Tryz.ntmps192
    go_wp2
    go_ret
    exact ⟨rfl, rfl⟩

/-- what a word comes to -/
def wrdR (r : List UInt8) (st : Rs) : Ot Rs := if namV r || wds.contains r then .ok { st with now := { st.now with kind := 3, s := r }, beh := st.beh + r.length } else .no 10 st.now.at'

set_option maxHeartbeats 800000 in
set_option maxRecDepth 100000 in
theorem word_any {w : World} {B b : Nat} {s : List UInt8} {st : Rs} {pv : Value} (h : Rm w B b s st pv) (r : List UInt8) (hr : r.length ≤ 512) (hb : st.beh ≤ 512) : Calls Tryz.prog 175 #[.pointer (some ⟨b, 0, none⟩), .string (S r)] w (Rp w B b s pv (wrdR r st)) := by
  have hlt := h.ob.lt
  have c7 := h.ob.c 7
  have c1 := h.ob.c 1
  have c3 := h.ob.c 3
  have f1 := h.ob.f 1
  have f3 := h.ob.f 3
  have f7 := h.ob.f 7
  simp only [rcs, List.getElem?_toArray, List.getElem?_cons_zero, List.getElem?_cons_succ] at c7 c1 c3
  have CN := Named_any (S r) (by rw [S_size]; omega)
  have CV := reserved_any (S r)
  rw [S_data] at CN CV
  have CF := refuse_any h
  have hz := S_size r
  have hw : IntKind.i64.wrap ((st.beh : Int) + (r.length : Int)) = (st.beh : Int) + (r.length : Int) := by rw [IntKind.wrap_i64]; omega
  have HH : Hid (Rm w B b s st pv) := h
  have HOK : Hid (namV r || wds.contains r → Rp w B b s pv (wrdR r st) (.returned (.tuple #[])) (((w.setCell ⟨b, 1, none⟩ (.int .i64 3)).setCell ⟨b, 3, none⟩ (.string (S r))).setCell ⟨b, 7, none⟩ (.int .i64 ((st.beh : Int) + (r.length : Int))))) := fun hq => by
    unfold wrdR
    rw [if_pos hq]
    refine ⟨rfl, pv, h.sets (chAt (chAt (chAt (chRe w b) 1 _) 3 _) 7 _) ?_ rfl⟩
    have := ((h.ob.set 1 (.int .i64 3)).set 3 (.string (S r))).set 7 (.int .i64 ((st.beh : Int) + (r.length : Int)))
    simpa [rcs] using this
  have HNO : Hid ((namV r || wds.contains r) = false → Rp w B b s pv (wrdR r st) (.panicked (wrg 10 st.now.at')) w) := fun hq => by
    unfold wrdR
    rw [hq]
    exact ⟨rfl, Ch.refl _ w⟩
  clear h
  cases q1 : namV r with
  | true =>
    rw [q1] at CN HOK
    go_enter Tryz.func175, Tryz.ntmps175
    go_wp2_with (first
      | (go_at_call 68; refine (CN _).mono ?_; rintro e w1 ⟨rfl, hw1⟩; rw [hw1]; clear hw1))
    go_end0
    exact HOK.out rfl
  | false =>
    rw [q1] at CN HOK HNO
    cases q2 : wds.contains r with
    | true =>
      rw [q2] at CV HOK
      go_enter Tryz.func175, Tryz.ntmps175
      go_wp2_with (first
        | (go_at_call 68; refine (CN _).mono ?_; rintro e w1 ⟨rfl, hw1⟩; rw [hw1]; clear hw1)
        | (go_at_call 192; refine (CV _).mono ?_; rintro e w1 ⟨rfl, hw1⟩; rw [hw1]; clear hw1))
      go_end0
      exact HOK.out rfl
    | false =>
      rw [q2] at CV HNO
      go_enter Tryz.func175, Tryz.ntmps175
      go_wp2_with (first
        | (go_at_call 68; refine (CN _).mono ?_; rintro e w1 ⟨rfl, hw1⟩; rw [hw1]; clear hw1)
        | (go_at_call 192; refine (CV _).mono ?_; rintro e w1 ⟨rfl, hw1⟩; rw [hw1]; clear hw1)
        | (go_at_call 163; refine CF.mono ?_; rintro e w1 ⟨rfl, hw1⟩; rw [hw1]; clear hw1))
      exact ⟨rfl, HNO.out rfl⟩

def mksV : Array Value := (mks.map fun m => Value.string (S m)).toArray
def sgsV : Array Value := (sgs.map fun p => [Value.string (S p.1), Value.int .i64 p.2]).flatten.toArray
/-- what the program's variables hold, in every memory that keeps what lies below B -/
def Gx (B : Nat) (w : World) : Prop := ∀ W, Below B w W → W.var? Tryz.prog "wherry/expr.signs" = some sgsV ∧ W.var? Tryz.prog "wherry/expr.marks" = some mksV ∧ (∃ tp p, W.var? Tryz.prog "strconv.ErrRange" = some #[.iface tp p]) ∧ ∃ tp p, W.var? Tryz.prog "strconv.ErrSyntax" = some #[.iface tp p]
theorem Gx.below {B : Nat} {w w' : World} (h : Gx B w) (hb : Below B w w') : Gx B w' := fun W hW => h W (hb.trans hW)
theorem var_heap {w : World} {n : String} {g : Nat} {cs : Array Value} (hg : Tryz.prog.globalNamed n = some g) (h : w.var? Tryz.prog n = some cs) : ∃ t fr, w.heap[g]? = some (.cells cs t fr) := by
  unfold World.var? at h
  rw [hg] at h
  simp only [Option.bind_some] at h
  split at h
  · rename_i c t fr e
    cases h
    exact ⟨_, _, e⟩
  · cases h
theorem hp_any (l m : List UInt8) (w : World) : Calls Tryz.prog 196 #[.string (S l), .string (S m)] w fun e w' => e = .returned (.bool (m.isPrefixOf l)) ∧ w' = w := by
  have := Any.strings_HasPrefix hpLay (S l) (S m) w
  rw [S_data, S_data] at this
  exact this
end Go.Proofs.YtkbhngdabfoboaaGreatDoor.x10
namespace Go.Proofs.YtkbhngdabfoboaaGreatDoor.x10
open Go.RowKit Go.Shelf Go.Sort
open Go.Lib hiding intOf

theorem bel_of {u v w : World} {B : Nat} (h : Below u.heap.size u v) (k : Below B v w) (hB : v.heap.size ≤ B) : Below u.heap.size u w := h.trans (k.mono (by have := h.size; omega))
theorem find_none {α : Type} {p : α → Bool} {l : List α} {i : Nat} (h : l.length ≤ i) (hp : ∀ j (hj : j < l.length), j < i → p l[j] = false) : l.find? p = none := by
  rw [List.find?_eq_none]
  intro x hx
  obtain ⟨j, hj, rfl⟩ := List.getElem_of_mem hx
  rw [hp j hj (by omega)]
  decide
theorem find_some {α : Type} {p : α → Bool} : ∀ {l : List α} {i : Nat} (h : i < l.length), (∀ j (hj : j < l.length), j < i → p l[j] = false) → p l[i] = true → l.find? p = some l[i]
  | x :: t, 0, _, _, h1 => by rw [List.find?_cons_of_pos (by simpa using h1)]; rfl
  | x :: t, i + 1, h, h0, h1 => by
    have hx : p x = false := h0 0 (by simp) (by omega)
    rw [List.find?_cons_of_neg (by simp [hx])]
    exact find_some (l := t) (by simpa using h) (fun j hj hji => h0 (j + 1) (by simp; omega) (by omega)) (by simpa using h1)
/-- what a mark comes to -/
def mrkR (r : List UInt8) (st : Rs) : Ot Rs := match mkOf r with
  | some m => .ok { st with now := { st.now with kind := 4, s := m }, beh := st.beh + m.length }
  | none => .no 10 st.now.at'
theorem idx_agg (cs : Array Value) (i : Nat) (v : Value) (W : World) (hi : i < 13) (hc : cs[i]? = some v) : (Instr.index 204 (.agg cs) (.int .i64 (i : Int))).run Tryz.prog W = .ok v W := by
  have hn : 0 ≤ (i : Int) ∧ (i : Int) < 13 := by omega
  simp [Instr.index, run_underlying Tryz.underlying204, asIntOf, hn, go_sem]
  rw [if_pos hi, hc]
  rfl
theorem mks_len : mks.length = 13 := rfl
theorem mks_le : ∀ m ∈ mks, m.length ≤ 2 := by decide
theorem mksV_at (i : Nat) (h : i < mks.length) : mksV[i]? = some (.string (S mks[i])) := by simp [mksV, h]

set_option maxHeartbeats 1500000 in
set_option maxRecDepth 100000 in
theorem mark_any {w : World} {B b : Nat} {s : List UInt8} {st : Rs} {pv : Value} (h : Rm w B b s st pv) (hg : Gx B w) (r : List UInt8) (hb : st.beh ≤ 512) : Calls Tryz.prog 178 #[.pointer (some ⟨b, 0, none⟩), .string (S r)] w (Rp w B b s pv (mrkR r st)) := by
  obtain ⟨tt, fr, hgm⟩ := var_heap (g := 2) (by kernel_rfl) (hg w (Below.refl _ _)).2.1
  have HGM : Hid (w.heap[2]? = some (.cells mksV tt fr)) := hgm
  have hlt := h.ob.lt
  have c7 := h.ob.c 7
  have c1 := h.ob.c 1
  have c3 := h.ob.c 3
  have f1 := h.ob.f 1
  have f3 := h.ob.f 3
  have f7 := h.ob.f 7
  simp only [rcs, List.getElem?_toArray, List.getElem?_cons_zero, List.getElem?_cons_succ] at c7 c1 c3
  have CF := refuse_any h
  have HH : Hid (Rm w B b s st pv) := h
  clear h hg hgm
  go_enter Tryz.func178, Tryz.ntmps178
  go_wp2_with (refine wpList_load_row rfl 204 _ rfl 2 rfl tt _ fr _ HGM.out Tryz.underlying204 rfl (by kernel_rfl) ?_)
  go_loopw [7] (fun v7 wr => ∃ i : Nat, v7 = .int .i64 (i : Int) ∧ i ≤ 13 ∧ wr = w ∧ Hid (∀ j (hj : j < mks.length), j < i → mks[j].isPrefixOf r = false)) (fun v7 _ => 13 - (intOf v7).toNat)
  case atStart => exact ⟨0, rfl, Nat.zero_le _, rfl, fun j _ hj => by omega⟩
  case round =>
    obtain ⟨i, rfl, hi, rfl, HI⟩ := hrel
    by_cases hi13 : i < 13
    · have hi' : (i : Int) < 13 := by omega
      have hi0 : (0 : Int) ≤ (i : Int) := by omega
      have him : i < mks.length := hi13
      have hcell := mksV_at i him
      have hml := mks_le mks[i] (List.getElem_mem him)
      have CP := hp_any r mks[i]
      have HFS := find_some (p := fun m => m.isPrefixOf r) him HI.out
      obtain ⟨m, hm⟩ : ∃ m, mks[i] = m := ⟨_, rfl⟩
      have HIN : Hid (mks[i].isPrefixOf r = false → ∀ j (hj : j < mks.length), j < i + 1 → mks[j].isPrefixOf r = false) := fun hq j hj hji => by
        rcases Nat.lt_succ_iff_lt_or_eq.1 hji with h1 | rfl
        · exact HI.out j hj h1
        · exact hq
      skip
      rw [hm] at hcell hml CP HFS HIN
      have hsz : mksV.size = 13 := rfl
      have hix := fun (W : World) => idx_agg mksV i (.string (S m)) W (by omega) hcell
      have hz := S_size m
      have hw : IntKind.i64.wrap ((st.beh : Int) + (m.length : Int)) = (st.beh : Int) + (m.length : Int) := by rw [IntKind.wrap_i64]; omega
      clear hm
      cases q : m.isPrefixOf r with
      | true =>
        rw [q] at CP
        have HR : Hid (mrkR r st = .ok { st with now := { st.now with kind := 4, s := m }, beh := st.beh + m.length }) := by
          show _ = _
          unfold mrkR mkOf
          rw [HFS q]
        clear HFS HIN
        go_wp2_with (go_at_call 196; refine (CP _).mono ?_; rintro e w1 ⟨rfl, hw1⟩; rw [hw1]; clear hw1)
        first | go_end0 | refine bodyPost_ret (results_none rfl _ _ _) rfl ?_
        rw [HR.out]
        refine ⟨rfl, pv, HH.out.sets (chAt (chAt (chAt (chRe _ b) 1 _) 3 _) 7 _) ?_ rfl⟩
        have := ((HH.out.ob.set 1 (.int .i64 4)).set 3 (.string (S m))).set 7 (.int .i64 ((st.beh : Int) + (m.length : Int)))
        simpa [rcs] using this
      | false =>
        rw [q] at CP
        have HN : Hid _ := HIN.out q
        clear HFS HIN q
        go_wp2_with (go_at_call 196; refine (CP _).mono ?_; rintro e w1 ⟨rfl, hw1⟩; rw [hw1]; clear hw1)
        go_roundw
        case rel => exact ⟨i + 1, by simp, by omega, by first | rfl | trivial, HN⟩
        case measure => simp [intOf]; omega
    · have hi' : ¬ (i : Int) < 13 := by omega
      have HR : Hid (mrkR r st = .no 10 st.now.at') := by
        show _ = _
        unfold mrkR mkOf
        rw [find_none (i := i) (by rw [mks_len]; omega) HI.out]
      go_wp2_with (go_at_call 163; refine CF.mono ?_; rintro e w1 ⟨rfl, hw1⟩; rw [hw1]; clear hw1)
      rw [HR.out]
      exact ⟨rfl, rfl, Ch.refl _ _⟩

/-- what a row of digits comes to -/
def numR (r : List UInt8) (st : Rs) : Ot Rs := if numD r ≤ 9223372036854775807 ∧ ¬ (r.head? = some 48 ∧ r ≠ [48]) then .ok { st with now := { st.now with kind := 1, v := (1, (numD r : Int), []) }, beh := st.beh + r.length } else .no 10 st.now.at'
theorem fold_le : ∀ (l : List UInt8) (a : Nat), a ≤ l.foldl (fun a c => a * 10 + (c.toNat - 48)) a
  | [], a => Nat.le_refl _
  | c :: r, a => by
    rw [List.foldl_cons]
    exact Nat.le_trans (by omega) (fold_le r _)
theorem parse_fold : ∀ (l : List UInt8) (a : Nat), (∀ c ∈ l, 48 ≤ c.toNat ∧ c.toNat ≤ 57) → (l.foldl (fun a c => a * 10 + (c.toNat - 48)) a ≤ 18446744073709551615 → Lib.parseUintM 18446744073709551615 a l = .ok (l.foldl (fun a c => a * 10 + (c.toNat - 48)) a)) ∧ (¬ l.foldl (fun a c => a * 10 + (c.toNat - 48)) a ≤ 18446744073709551615 → a ≤ 18446744073709551615 → Lib.parseUintM 18446744073709551615 a l = .range)
  | [], a, _ => ⟨fun _ => by rw [Lib.parseUintM]; rfl, fun h h2 => absurd h2 h⟩
  | c :: r, a, hd => by
    have h1 := fold_le r (a * 10 + (c.toNat - 48))
    have ih := parse_fold r (a * 10 + (c.toNat - 48)) (fun x hx => hd x (by simp [hx]))
    rw [List.foldl_cons]
    refine ⟨fun hn => ?_, fun hn ha => ?_⟩
    · rw [Lib.parseUintM, if_pos (hd c (by simp)), if_neg (by omega), if_neg (by omega)]
      exact ih.1 hn
    · rw [Lib.parseUintM, if_pos (hd c (by simp))]
      by_cases h2 : 1844674407370955162 ≤ a
      · rw [if_pos h2]
      · rw [if_neg h2]
        by_cases h3 : 18446744073709551615 < a * 10 + (c.toNat - 48)
        · rw [if_pos h3]
        · rw [if_neg h3]
          exact ih.2 hn (by omega)
theorem parse_num {r : List UInt8} (hr : r ≠ []) (hd : ∀ c ∈ r, 48 ≤ c.toNat ∧ c.toNat ≤ 57) : (numD r ≤ 9223372036854775807 → Lib.parseIntB 64 r = .ok (numD r : Int)) ∧ (¬ numD r ≤ 9223372036854775807 → Lib.parseIntB 64 r = .range) := by
  cases r with
  | nil => exact absurd rfl hr
  | cons c t =>
    have hc := hd c (by simp)
    rw [Lib.parseIntB_plain 64 c t (by omega) (by omega)]
    have hf := parse_fold (c :: t) 0 hd
    have e : Lib.parseUintB 64 (c :: t) = Lib.parseUintM 18446744073709551615 0 (c :: t) := by unfold Lib.parseUintB; rw [if_neg (by simp)]
    rw [e]
    unfold numD
    refine ⟨fun h => ?_, fun h => ?_⟩
    · rw [hf.1 (by omega)]
      show (if 9223372036854775808 ≤ _ then _ else _) = _
      rw [if_neg (by omega)]
    · by_cases h2 : (c :: t).foldl (fun a c => a * 10 + (c.toNat - 48)) 0 ≤ 18446744073709551615
      · rw [hf.1 h2]
        show (if 9223372036854775808 ≤ _ then _ else _) = _
        rw [if_pos (by omega)]
      · rw [hf.2 h2 (by omega)]
        rfl
theorem pin_ok (r : List UInt8) (hr : r ≠ []) (hl : r.length ≤ 512) (hd : ∀ c ∈ r, 48 ≤ c.toNat ∧ c.toNat ≤ 57) (h : numD r ≤ 9223372036854775807) (w : World) : Calls Tryz.prog 190 #[.string (S r), .int .i64 10, .int .i64 64] w fun e w' => e = .returned (.tuple #[.int .i64 (numD r : Int), .nilIface]) ∧ Below w.heap.size w w' := by
  have := Any.strconv_ParseInt_10_at64_ok pinLay (S r) (by rw [S_size]; omega) (numD r : Int) (by rw [S_data]; exact (parse_num hr hd).1 h) w
  refine this.mono fun e w' ⟨h1, h2⟩ => ⟨h1, ?_⟩
  rcases h2 with rfl | ⟨t, rfl⟩
  · exact Below.refl _ _
  · exact Lib.bytesWorld_below _ _ _
theorem pin_no (r : List UInt8) (hr : r ≠ []) (hl : r.length ≤ 512) (hd : ∀ c ∈ r, 48 ≤ c.toNat ∧ c.toNat ≤ 57) (h : ¬ numD r ≤ 9223372036854775807) {B : Nat} {w : World} (hg : Gx B w) : Calls Tryz.prog 190 #[.string (S r), .int .i64 10, .int .i64 64] w fun e w' => (∃ v t p, e = .returned (.tuple #[.int .i64 v, .iface t p])) ∧ Below w.heap.size w w' := by
  obtain ⟨tp, p, hvar⟩ := (hg w (Below.refl _ _)).2.2.1
  have := Any.strconv_ParseInt_10_at64_range_var pinLay (S r) (by rw [S_size]; omega) (by rw [S_data]; exact (parse_num hr hd).2 h) tp p w hvar
  exact this.mono fun e w' ⟨N, h1, _, _, h4⟩ => ⟨⟨_, _, _, h1⟩, h4⟩

set_option maxHeartbeats 400000 in
theorem number_v (n : Int) (w : World) : Calls Tryz.prog 191 #[.int .i64 n] w fun e w' => e = .returned (.agg #[.int .i64 1, .int .i64 n, .string ⟨#[]⟩]) ∧ Below w.heap.size w w' := by
  go_enter Tryz.func191, Tryz.ntmps191
  go_wp2
  exact bodyPost_ret (v := .agg #[.int .i64 1, .int .i64 n, .string ⟨#[]⟩]) (by simp [results, Tryz.results191, go_sem]) rfl ⟨rfl, (Below.refl _ w).alloc (Nat.le_refl _) _⟩
set_option maxHeartbeats 400000 in
theorem text_v (l : List UInt8) (w : World) : Calls Tryz.prog 195 #[.string (S l)] w fun e w' => e = .returned (.agg #[.int .i64 3, .int .i64 0, .string (S l)]) ∧ Below w.heap.size w w' := by
  go_enter Tryz.func195, Tryz.ntmps195
  go_wp2
  exact bodyPost_ret (v := .agg #[.int .i64 3, .int .i64 0, .string (S l)]) (by simp [results, Tryz.results195, go_sem]) rfl ⟨rfl, (Below.refl _ w).alloc (Nat.le_refl _) _⟩
set_option maxHeartbeats 400000 in
theorem truth_v (x : Bool) (w : World) : Calls Tryz.prog 208 #[.bool x] w fun e w' => e = .returned (.agg #[.int .i64 2, .int .i64 (if x then 1 else 0), .string ⟨#[]⟩]) ∧ Below w.heap.size w w' := by
  cases x
  · go_enter Tryz.func208, Tryz.ntmps208
    go_wp2
    exact bodyPost_ret (v := .agg #[.int .i64 2, .int .i64 0, .string ⟨#[]⟩]) (by simp [results, Tryz.results208, go_sem]) rfl ⟨rfl, (Below.refl _ w).alloc (Nat.le_refl _) _⟩
  · go_enter Tryz.func208, Tryz.ntmps208
    go_wp2
    exact bodyPost_ret (v := .agg #[.int .i64 2, .int .i64 1, .string ⟨#[]⟩]) (by simp [results, Tryz.results208, go_sem]) rfl ⟨rfl, (Below.refl _ w).alloc (Nat.le_refl _) _⟩
theorem Lf.of_below {w w' : World} (b : Nat) (pv : Value) (h : Below w.heap.size w w') : Lf w b pv w' pv := ⟨Ch.of_below h, fun _ hx => .inl hx⟩

set_option maxHeartbeats 2000000 in
set_option maxRecDepth 100000 in
theorem number_any {w : World} {B b : Nat} {s : List UInt8} {st : Rs} {pv : Value} (h : Rm w B b s st pv) (hg : Gx B w) (r : List UInt8) (hr : r ≠ []) (hl : r.length ≤ 512) (hd : ∀ c ∈ r, 48 ≤ c.toNat ∧ c.toNat ≤ 57) (hb : st.beh ≤ 512) : Calls Tryz.prog 173 #[.pointer (some ⟨b, 0, none⟩), .string (S r)] w (Rp w B b s pv (numR r st)) := by
  have hz := S_size r
  have hw : IntKind.i64.wrap ((st.beh : Int) + (r.length : Int)) = (st.beh : Int) + (r.length : Int) := by rw [IntKind.wrap_i64]; omega
  have HF : Hid (∀ W, Below w.heap.size w W → W.cell? ⟨b, 1, none⟩ = some (.int .i64 st.now.kind) ∧ W.cell? ⟨b, 4, none⟩ = some (.int .i64 st.now.v.1) ∧ W.cell? ⟨b, 5, none⟩ = some (.int .i64 st.now.v.2.1) ∧ W.cell? ⟨b, 6, none⟩ = some (.string (S st.now.v.2.2)) ∧ W.cell? ⟨b, 7, none⟩ = some (.int .i64 (st.beh : Int)) ∧ (∀ i, W.frozen? ⟨b, i, none⟩ = false) ∧ b < W.heap.size) := fun W hW => by
    have o := (h.below hW).ob
    exact ⟨o.c 1, o.c 4, o.c 5, o.c 6, o.c 7, o.f, o.lt⟩
  have HRF : Hid (∀ W, Below w.heap.size w W → _) := fun W hW => refuse_any (h.below hW)
  have HH : Hid (Rm w B b s st pv) := h
  have hbl := h.ob.lt
  by_cases hn : numD r ≤ 9223372036854775807
  · have CP := pin_ok r hr hl hd hn w
    have CV := number_v (numD r : Int)
    have hbeh : (0 : Int) ≤ (st.beh : Int) := by omega
    by_cases h0 : r.head? = some 48 ∧ r ≠ [48]
    · have HR : Hid (numR r st = .no 10 st.now.at') := by show _ = _; unfold numR; rw [if_neg (fun h => h.2 h0)]
      obtain ⟨t, ht⟩ : ∃ t, r = 48 :: t := by
        cases r with
        | nil => exact absurd rfl hr
        | cons c t => have := h0.1; simp at this; exact ⟨t, by rw [this]⟩
      have hg0 : ∀ (h : 0 < (S r).size), (S r)[0]'h = 48 := fun h => by rw [S_at r 0 (by rw [← hz]; exact h) h]; simp [ht]
      have hg1 : 0 < (S r).size := by rw [hz, ht]; simp
      have hg2 : (0 : Int) < ((S r).size : Int) := by omega
      have hne : ((S r).toList == [48]) = false := beq_lit (by rw [S_data]; exact h0.2)
      have hrl : 0 < r.length := by rw [ht]; simp
      clear h hg hr hd hn h0 ht
      generalize numD r = nd at *
      go_enter Tryz.func173, Tryz.ntmps173
      go_wp2_with (first
        | (go_at_call 190; refine CP.mono ?_; rintro e w1 ⟨rfl, b1⟩; have B1 : Hid (Below w.heap.size w w1) := b1; have CF := HRF.out w1 b1; clear b1 CP)
        | (go_at_call 163; refine CF.mono ?_; rintro e w2 ⟨rfl, hw2⟩; rw [hw2]; clear hw2))
      rw [HR.out]
      exact ⟨rfl, rfl, Ch.of_below B1.out⟩
    · have HR : Hid (numR r st = .ok { st with now := { st.now with kind := 1, v := (1, (numD r : Int), []) }, beh := st.beh + r.length }) := by show _ = _; unfold numR; rw [if_pos ⟨hn, h0⟩]
      have hcs : (∃ c t, r = c :: t ∧ c ≠ 48) ∨ r = [48] := by
        cases r with
        | nil => exact absurd rfl hr
        | cons c t =>
          by_cases hc : c = 48
          · right
            subst hc
            by_cases ht : (48 :: t : List UInt8) = [48]
            · exact ht
            · exact absurd ⟨rfl, ht⟩ h0
          · exact .inl ⟨c, t, rfl, hc⟩
      have HFI : Hid (∀ W, Below w.heap.size w W → Rp w B b s pv (numR r st) (.returned (.tuple #[])) (((((W.setCell ⟨b, 1, none⟩ (.int .i64 1)).setCell ⟨b, 4, none⟩ (.int .i64 1)).setCell ⟨b, 5, none⟩ (.int .i64 (numD r : Int))).setCell ⟨b, 6, none⟩ (.string ⟨#[]⟩)).setCell ⟨b, 7, none⟩ (.int .i64 ((st.beh : Int) + (r.length : Int))))) := fun W hW => by
        rw [HR.out]
        have hk := h.below hW
        obtain ⟨k1, k2⟩ := hk.sets (st' := { st with now := { st.now with kind := 1, v := (1, (numD r : Int), []) }, beh := st.beh + r.length }) (chAt (chAt (chAt (chAt (chAt (chRe W b) 1 (.int .i64 1)) 4 (.int .i64 1)) 5 (.int .i64 (numD r : Int))) 6 (.string ⟨#[]⟩)) 7 (.int .i64 ((st.beh : Int) + (r.length : Int)))) (by
          have := ((((hk.ob.set 1 (.int .i64 1)).set 4 (.int .i64 1)).set 5 (.int .i64 (numD r : Int))).set 6 (.string ⟨#[]⟩)).set 7 (.int .i64 ((st.beh : Int) + (r.length : Int)))
          simpa [rcs, S] using this) rfl
        exact ⟨rfl, pv, k1, (Lf.of_below b pv hW).trans k2⟩
      rcases hcs with ⟨c, t, ht, hc⟩ | ht
      · have hg0 : ∀ (h : 0 < (S r).size), (S r)[0]'h = c := fun h => by rw [S_at r 0 (by rw [← hz]; exact h) h]; simp [ht]
        have hg1 : 0 < (S r).size := by rw [hz, ht]; simp
        have hg2 : (0 : Int) < ((S r).size : Int) := by omega
        have hrl : 0 < r.length := by rw [ht]; simp
        have hcn : ((c.toNat : Int) == 48) = false := by
          rw [beq_eq_false_iff_ne]
          intro e
          exact hc (UInt8.toNat_inj.1 (by have : c.toNat = 48 := by omega
                                          simpa using this))
        clear h hg hr hd hn h0 ht HR hc
        generalize numD r = nd at *
        go_enter Tryz.func173, Tryz.ntmps173
        go_wp2_with (first
          | (go_at_call 190; refine CP.mono ?_; rintro e w1 ⟨rfl, b1⟩; have B1 : Hid (Below w.heap.size w w1) := b1; clear b1 CP)
          | (go_at_call 191; refine (CV _).mono ?_; rintro e w2 ⟨rfl, b2⟩; have B2 : Hid (Below w.heap.size w w2) := bel_of B1.out b2 (Nat.le_refl _); obtain ⟨d1, d4, d5, d6, d7, df, dl⟩ := HF.out w2 B2.out; have e1 := df 1; have e4 := df 4; have e5 := df 5; have e6 := df 6; have e7 := df 7; clear b2 df))
        go_end0
        exact HFI.out _ B2.out
      · subst ht
        have hg0 : ∀ (h : 0 < (S [48]).size), (S [48])[0]'h = 48 := fun h => S_at [48] 0 (by simp) h
        have hg1 : 0 < (S [48]).size := by rw [hz]; simp
        have hg2 : (0 : Int) < ((S [48]).size : Int) := by omega
        have hne : ((S [48]).toList == [48]) = true := by rw [S_toList]; rfl
        clear h hg hr hd hn h0 HR
        generalize numD [48] = nd at *
        go_enter Tryz.func173, Tryz.ntmps173
        go_wp2_with (first
          | (go_at_call 190; refine CP.mono ?_; rintro e w1 ⟨rfl, b1⟩; have B1 : Hid (Below w.heap.size w w1) := b1; clear b1 CP)
          | (go_at_call 191; refine (CV _).mono ?_; rintro e w2 ⟨rfl, b2⟩; have B2 : Hid (Below w.heap.size w w2) := bel_of B1.out b2 (Nat.le_refl _); obtain ⟨d1, d4, d5, d6, d7, df, dl⟩ := HF.out w2 B2.out; have e1 := df 1; have e4 := df 4; have e5 := df 5; have e6 := df 6; have e7 := df 7; clear b2 df))
        go_end0
        exact HFI.out _ B2.out
  · have CP := pin_no r hr hl hd hn hg
    have HR : Hid (numR r st = .no 10 st.now.at') := by show _ = _; unfold numR; rw [if_neg (fun h => hn h.1)]
    clear h hg hr hd hn
    go_enter Tryz.func173, Tryz.ntmps173
    go_wp2_with (first
      | (go_at_call 190; refine CP.mono ?_; rintro e w1 ⟨⟨v, tq, pq, rfl⟩, b1⟩; have B1 : Hid (Below w.heap.size w w1) := b1; have CF := HRF.out w1 b1; clear b1 CP)
      | (go_at_call 163; refine CF.mono ?_; rintro e w2 ⟨rfl, hw2⟩; rw [hw2]; clear hw2))
    rw [HR.out]
    exact ⟨rfl, rfl, Ch.of_below B1.out⟩
end Go.Proofs.YtkbhngdabfoboaaGreatDoor.x10
namespace Go.Proofs.YtkbhngdabfoboaaGreatDoor
open Go.RowKit Go.Shelf Go.Sort
open Go.Lib hiding intOf

/-- where the library's numbers lie in this program -/
def bldRen : Shelf.Ren := ⟨fun
  | 166 => 120
  | 167 => 194
  | 169 => 121
  | 240 => 141
  | 276 => 154
  | n => n, fun
  | 0 => 0
  | 3 => 3
  | 4 => 4
  | 5 => 5
  | 9 => 9
  | 20 => 20
  | 37 => 49
  | 70 => 120
  | 72 => 122
  | 75 => 125
  | 80 => 128
  | 164 => 172
  | 127 => 144
  | n => n, fun n => n⟩
theorem bld166 : Lays.n166 Tryz.prog bldRen where
  mixed := by kernel_rfl
  f166 := Tryz.func120.trans (by kernel_rfl)
  f240 := Tryz.func141.trans (by kernel_rfl)
  f276 := Tryz.func154.trans (by kernel_rfl)
  t0 := Tryz.underlying0
  a0 := Tryz.isAgg0
  z0 := Tryz.sizeOf0
  v0 := Tryz.zeroValue0
  t3 := Tryz.underlying3
  a3 := Tryz.isAgg3
  z3 := Tryz.sizeOf3
  v3 := Tryz.zeroValue3
  t4 := Tryz.underlying4
  a4 := Tryz.isAgg4
  z4 := Tryz.sizeOf4
  v4 := Tryz.zeroValue4
  t9 := Tryz.underlying9
  a9 := Tryz.isAgg9
  z9 := Tryz.sizeOf9
  v9 := Tryz.zeroValue9
  t20 := Tryz.underlying20
  a20 := Tryz.isAgg20
  z20 := Tryz.sizeOf20
  v20 := Tryz.zeroValue20
  t37 := Tryz.underlying49
  a37 := Tryz.isAgg49
  z37 := Tryz.sizeOf49
  v37 := Tryz.zeroValue49
  t70 := Tryz.underlying120
  a70 := Tryz.isAgg120
  z70 := Tryz.sizeOf120
  v70 := Tryz.zeroValue120
  t72 := Tryz.underlying122
  a72 := Tryz.isAgg122
  z72 := Tryz.sizeOf122
  v72 := Tryz.zeroValue122
  t75 := Tryz.underlying125
  a75 := Tryz.isAgg125
  z75 := Tryz.sizeOf125
  v75 := Tryz.zeroValue125
  t164 := Tryz.underlying172
  a164 := Tryz.isAgg172
  z164 := Tryz.sizeOf172
  v164 := Tryz.zeroValue172
theorem bld167 : Lays.n167 Tryz.prog bldRen where
  mixed := by kernel_rfl
  f167 := Tryz.func194.trans (by kernel_rfl)
  f240 := Tryz.func141.trans (by kernel_rfl)
  f276 := Tryz.func154.trans (by kernel_rfl)
  t0 := Tryz.underlying0
  a0 := Tryz.isAgg0
  z0 := Tryz.sizeOf0
  v0 := Tryz.zeroValue0
  t4 := Tryz.underlying4
  a4 := Tryz.isAgg4
  z4 := Tryz.sizeOf4
  v4 := Tryz.zeroValue4
  t5 := Tryz.underlying5
  a5 := Tryz.isAgg5
  z5 := Tryz.sizeOf5
  v5 := Tryz.zeroValue5
  t9 := Tryz.underlying9
  a9 := Tryz.isAgg9
  z9 := Tryz.sizeOf9
  v9 := Tryz.zeroValue9
  t20 := Tryz.underlying20
  a20 := Tryz.isAgg20
  z20 := Tryz.sizeOf20
  v20 := Tryz.zeroValue20
  t37 := Tryz.underlying49
  a37 := Tryz.isAgg49
  z37 := Tryz.sizeOf49
  v37 := Tryz.zeroValue49
  t70 := Tryz.underlying120
  a70 := Tryz.isAgg120
  z70 := Tryz.sizeOf120
  v70 := Tryz.zeroValue120
  t72 := Tryz.underlying122
  a72 := Tryz.isAgg122
  z72 := Tryz.sizeOf122
  v72 := Tryz.zeroValue122
  t75 := Tryz.underlying125
  a75 := Tryz.isAgg125
  z75 := Tryz.sizeOf125
  v75 := Tryz.zeroValue125
  t164 := Tryz.underlying172
  a164 := Tryz.isAgg172
  z164 := Tryz.sizeOf172
  v164 := Tryz.zeroValue172
theorem bld169 : Lays.n169 Tryz.prog bldRen where
  mixed := by kernel_rfl
  f169 := Tryz.func121.trans (by kernel_rfl)
  t0 := Tryz.underlying0
  a0 := Tryz.isAgg0
  z0 := Tryz.sizeOf0
  v0 := Tryz.zeroValue0
  t3 := Tryz.underlying3
  a3 := Tryz.isAgg3
  z3 := Tryz.sizeOf3
  v3 := Tryz.zeroValue3
  t9 := Tryz.underlying9
  a9 := Tryz.isAgg9
  z9 := Tryz.sizeOf9
  v9 := Tryz.zeroValue9
  t37 := Tryz.underlying49
  a37 := Tryz.isAgg49
  z37 := Tryz.sizeOf49
  v37 := Tryz.zeroValue49
  t70 := Tryz.underlying120
  a70 := Tryz.isAgg120
  z70 := Tryz.sizeOf120
  v70 := Tryz.zeroValue120
  t72 := Tryz.underlying122
  a72 := Tryz.isAgg122
  z72 := Tryz.sizeOf122
  v72 := Tryz.zeroValue122
  t127 := Tryz.underlying144
  a127 := Tryz.isAgg144
  z127 := Tryz.sizeOf144
  v127 := Tryz.zeroValue144
theorem bldX : Builder.Extra Tryz.prog bldRen := {
  sizeBuilder := by kernel_rfl
  liesBuilder := by kernel_rfl
  t5 := Tryz.underlying5
  a5 := Tryz.isAgg5
  z5 := Tryz.sizeOf5
  v5 := Tryz.zeroValue5
  infoByte := by kernel_rfl
  cellsByte := by kernel_rfl
  sizeByte := by kernel_rfl
  neB5 := by decide }

/-- the Builder in block b holds l; it and its bytes lie from block B on -/
def Bd9 (w : World) (B b : Nat) (l : List UInt8) : Prop := Lib.IsBuilderF 122 5 B b (Lib.byteCells l) w ∧ B ≤ w.heap.size
theorem Bd9.new (w : World) : Bd9 (w.alloc (.cells #[.pointer none, .slice none 0 0] 122)) w.heap.size w.heap.size [] := ⟨Lib.IsBuilderF.of (Lib.fresh_isBuilder 122 5 w), by simp⟩
theorem Bd9.alloc {w : World} {B b : Nat} {l : List UInt8} (h : Bd9 w B b l) (o : Obj) : Bd9 (w.alloc o) B b l := ⟨h.1.alloc o, by have := h.2; simp; omega⟩
/-- what a writer keeps: all below B, and every block that holds no bytes -/
structure Kp (w w' : World) (B b : Nat) : Prop where
  bel : Below B w w'
  oth : Lib.OthersKept 5 (some b) w w'
theorem BuilderAtF.up9 {T e : TypeId} {B b : Nat} {p : Value} {bs : List Value} {w w' : World} (h : Lib.BuilderAtF T e B b p bs w) (hk : ∀ k, k < w.heap.size → w'.heap[k]? = w.heap[k]?) : Lib.BuilderAtF T e B b p bs w' := by
  obtain ⟨hB, v, hb, hown, hne⟩ := h
  refine ⟨hB, v, (hk b (Array.getElem?_eq_some_iff.1 hb).1).trans hb, ⟨hown.1, ?_⟩, hne⟩
  rcases hown.2 with hn | ⟨g, cap, cur, fz, hv, hbg, hg, rest⟩
  · exact .inl hn
  · exact .inr ⟨g, cap, cur, fz, hv, hbg, (hk g (Array.getElem?_eq_some_iff.1 hg).1).trans hg, rest⟩
theorem Bd9.up {w w' : World} {B b : Nat} {l : List UInt8} (h : Bd9 w B b l) (hb : Below w.heap.size w w') : Bd9 w' B b l :=
  ⟨h.1.elim (fun x => .inl (BuilderAtF.up9 x hb.block)) (fun x => .inr (BuilderAtF.up9 x hb.block)), Nat.le_trans h.2 hb.size⟩
theorem Kp.refl (w : World) (B b : Nat) : Kp w w B b := ⟨Below.refl _ _, Lib.OthersKept.refl _ _ _⟩
theorem Kp.trans {u v w : World} {B b : Nat} (h : Kp u v B b) (k : Kp v w B b) : Kp u w B b := ⟨h.bel.trans k.bel, h.oth.trans k.oth⟩
theorem Kp.up {u v w : World} {B b : Nat} (h : Kp u v B b) (k : Below v.heap.size v w) (hB : B ≤ v.heap.size) : Kp u w B b :=
  ⟨h.bel.trans (k.mono hB), fun i o hi hb ho => (k.block i (Array.getElem?_eq_some_iff.1 (h.oth i o hi hb ho)).1).trans (h.oth i o hi hb ho)⟩
theorem wByte {w : World} {B b : Nat} {l : List UInt8} (h : Bd9 w B b l) (c : UInt8) (hl : l.length + 1 ≤ 140737488355328) :
    Calls Tryz.prog 194 #[.pointer (some ⟨b, 0, none⟩), .int .u8 (c.toNat : Int)] w fun e w' => e = .returned .nilIface ∧ Bd9 w' B b (l ++ [c]) ∧ Kp w w' B b := by
  refine (Any.Builder_WriteByte_k bld167 bldX B b (Lib.byteCells l) (c.toNat : Int) w h.1 (by rw [Lib.byteCells_length]; exact hl) h.2).mono ?_
  rintro e w' ⟨he, h1, h2, h3⟩
  refine ⟨he, ⟨?_, Nat.le_trans h.2 h2.size⟩, h2, h3⟩
  rw [Lib.byteCells_append]
  exact .inr h1
theorem wStr {w : World} {B b : Nat} {l : List UInt8} (h : Bd9 w B b l) (s : List UInt8) (hl : l.length + s.length ≤ 140737488355328) :
    Calls Tryz.prog 120 #[.pointer (some ⟨b, 0, none⟩), .string (S s)] w fun e w' => e = .returned (.tuple #[.int .i64 (s.length : Int), .nilIface]) ∧ Bd9 w' B b (l ++ s) ∧ Kp w w' B b := by
  refine (Any.Builder_WriteString_k bld166 bldX B b (Lib.byteCells l) (S s) w h.1 (by rw [Lib.byteCells_length, S_size]; exact hl) h.2).mono ?_
  rintro e w' ⟨he, h1, h2, h3⟩
  refine ⟨by rw [he, S_size], ⟨?_, Nat.le_trans h.2 h2.size⟩, h2, h3⟩
  rw [Lib.byteCells_append]
  rw [Lib.strCells_eq, S_list] at h1
  exact .inr h1
theorem bStr {w : World} {B b : Nat} {l : List UInt8} (h : Bd9 w B b l) :
    Calls Tryz.prog 121 #[.pointer (some ⟨b, 0, none⟩)] w fun e w' => e = .returned (.string (S l)) ∧ Kp w w' B b := by
  refine (Any.Builder_String_any_k bld169 bldX B b l w h.1 h.2).mono ?_
  rintro e w' ⟨he, -, h2, h3⟩
  exact ⟨he, h2, h3⟩
end Go.Proofs.YtkbhngdabfoboaaGreatDoor
namespace Go.Proofs.YtkbhngdabfoboaaGreatDoor.x10
open Go.RowKit Go.Shelf Go.Sort
open Go.Lib hiding intOf

theorem shown_any : Bt 206 kS := fun c w => by
  unfold kS
  by_cases h1 : 32 ≤ c.toNat
  · have h1' : (32 : Int) ≤ (c.toNat : Int) := by omega
    by_cases h2 : c.toNat ≤ 126
    · have h2' : (c.toNat : Int) ≤ 126 := by omega
      rw [decide_eq_true h1, decide_eq_true h2]
      go_enter Tryz.func206, Tryz.ntmps206
      go_wp2
      go_ret
      exact ⟨rfl, rfl⟩
    · have h2' : ¬ (c.toNat : Int) ≤ 126 := by omega
      rw [decide_eq_true h1, decide_eq_false h2]
      go_enter Tryz.func206, Tryz.ntmps206
      go_wp2
      go_ret
      exact ⟨rfl, rfl⟩
  · have h1' : ¬ (32 : Int) ≤ (c.toNat : Int) := by omega
    rw [decide_eq_false h1]
    go_enter Tryz.func206, Tryz.ntmps206
    go_wp2
    go_ret
    exact ⟨rfl, rfl⟩
def hexL : List UInt8 := [48, 49, 50, 51, 52, 53, 54, 55, 56, 57, 97, 98, 99, 100, 101, 102]
def hexI (c : UInt8) : Int := match hexV c with
  | some a => (a : Int)
  | none => -1
theorem hex_all : ∀ n : Fin 256, Lib.indexByte hexL (UInt8.ofNat n.val) = hexI (UInt8.ofNat n.val) := by decide +kernel
theorem hex_ix (c : UInt8) : Lib.indexByte hexL c = hexI c := by
  have := hex_all ⟨c.toNat, c.toNat_lt⟩
  rwa [UInt8.ofNat_toNat] at this
theorem ib_any (c : UInt8) (w : World) : Calls Tryz.prog 205 #[.string ⟨#[48, 49, 50, 51, 52, 53, 54, 55, 56, 57, 97, 98, 99, 100, 101, 102]⟩, .int .u8 (c.toNat : Int)] w fun e w' => e = .returned (.int .i64 (hexI c)) ∧ w' = w := by
  have := Any.strings_IndexByte ibLay ⟨#[48, 49, 50, 51, 52, 53, 54, 55, 56, 57, 97, 98, 99, 100, 101, 102]⟩ (c.toNat : Int) w
  rw [show ((c.toNat : Int).toNat).toUInt8 = c by simp] at this
  rw [← hex_ix]
  exact this
theorem hexI_le (c : UInt8) : hexI c = -1 ∨ (0 ≤ hexI c ∧ hexI c < 16) := by
  unfold hexI hexV kD
  split
  · rename_i a h
    split at h
    · rename_i hk
      simp only [Bool.and_eq_true, decide_eq_true_eq] at hk
      cases h
      right
      omega
    · split at h
      · cases h
        right
        omega
      · cases h
  · exact .inl rfl
/-- what readByte answers -/
def rbA (x : UInt8 × Nat) : Value := .tuple #[.int .u8 (x.1.toNat : Int), .int .i64 (x.2 : Int)]

set_option maxHeartbeats 1000000 in
set_option maxRecDepth 100000 in
theorem rb_esc (c : UInt8) (t : List UInt8) (hc : c = 34 ∨ c = 92) (w : World) : Calls Tryz.prog 193 #[.string (S (92 :: c :: t))] w fun e w' => e = .returned (rbA (c, 2)) ∧ w' = w := by
  have CA := hp_any (92 :: c :: t) [92, 34]
  have CB := hp_any (92 :: c :: t) [92, 92]
  have hz := S_size (92 :: c :: t)
  have hl : (92 :: c :: t).length = t.length + 2 := rfl
  have hg1 : ∀ (h : 1 < (S (92 :: c :: t)).size), (S (92 :: c :: t))[1]'h = c := fun h => S_at (92 :: c :: t) 1 (by simp) h
  have hg2 : (1 : Int) < ((92 :: c :: t).length : Int) := by omega
  have hg3 : 1 < (92 :: c :: t).length := by omega
  unfold rbA
  simp only
  rcases hc with rfl | rfl
  · rw [show List.isPrefixOf [92, 34] (92 :: 34 :: t) = true by simp [List.isPrefixOf]] at CA
    generalize (92 :: 34 :: t : List UInt8) = L at *
    go_enter Tryz.func193, Tryz.ntmps193
    go_wp2_with (go_at_call 196; refine (CA _).mono ?_; rintro e w1 ⟨rfl, hw1⟩; rw [hw1]; clear hw1 CA)
    go_ret2
    exact ⟨rfl, rfl⟩
  · rw [show List.isPrefixOf [92, 34] (92 :: 92 :: t) = false by simp [List.isPrefixOf]] at CA
    rw [show List.isPrefixOf [92, 92] (92 :: 92 :: t) = true by simp [List.isPrefixOf]] at CB
    generalize (92 :: 92 :: t : List UInt8) = L at *
    go_enter Tryz.func193, Tryz.ntmps193
    go_wp2_with (first
      | (go_at_call 196; refine (CA _).mono ?_; rintro e w1 ⟨rfl, hw1⟩; rw [hw1]; clear hw1 CA)
      | (go_at_call 196; refine (CB _).mono ?_; rintro e w1 ⟨rfl, hw1⟩; rw [hw1]; clear hw1 CB))
    go_ret2
    exact ⟨rfl, rfl⟩

set_option maxHeartbeats 400000 in
set_option maxRecDepth 100000 in
theorem rb_hex (a b : UInt8) (t : List UInt8) (w : World) : Calls Tryz.prog 193 #[.string (S (92 :: 120 :: a :: b :: t))] w fun e w' => e = .returned (rbA (rdB1 (92 :: 120 :: a :: b :: t))) ∧ Below w.heap.size w w' := by
  have CA := hp_any (92 :: 120 :: a :: b :: t) [92, 34]
  have CB := hp_any (92 :: 120 :: a :: b :: t) [92, 92]
  have CC := hp_any (92 :: 120 :: a :: b :: t) [92, 120]
  rw [show List.isPrefixOf [92, 34] (92 :: 120 :: a :: b :: t) = false by simp [List.isPrefixOf]] at CA
  rw [show List.isPrefixOf [92, 92] (92 :: 120 :: a :: b :: t) = false by simp [List.isPrefixOf]] at CB
  rw [show List.isPrefixOf [92, 120] (92 :: 120 :: a :: b :: t) = true by simp [List.isPrefixOf]] at CC
  have hz := S_size (92 :: 120 :: a :: b :: t)
  have hl : (92 :: 120 :: a :: b :: t).length = t.length + 4 := rfl
  have hg1 : ∀ (h : 2 < (S (92 :: 120 :: a :: b :: t)).size), (S (92 :: 120 :: a :: b :: t))[2]'h = a := fun h => S_at (92 :: 120 :: a :: b :: t) 2 (by simp) h
  have hg2 : ∀ (h : 3 < (S (92 :: 120 :: a :: b :: t)).size), (S (92 :: 120 :: a :: b :: t))[3]'h = b := fun h => S_at (92 :: 120 :: a :: b :: t) 3 (by simp) h
  have hg3 : (3 : Int) < ((92 :: 120 :: a :: b :: t).length : Int) := by omega
  have hg4 : 3 < (92 :: 120 :: a :: b :: t).length := by omega
  have hg5 : (2 : Int) < ((92 :: 120 :: a :: b :: t).length : Int) := by omega
  have hg6 : 2 < (92 :: 120 :: a :: b :: t).length := by omega
  have hg7 : (4 : Int) ≤ ((92 :: 120 :: a :: b :: t).length : Int) := by omega
  have IA := ib_any a
  have IB := ib_any b
  have la := hexI_le a
  have lb := hexI_le b
  have HE : Hid (rdB1 (92 :: 120 :: a :: b :: t) = match hexV a, hexV b with
    | some x, some y => if kS (UInt8.ofNat (16 * x + y)) then (0, 0) else (UInt8.ofNat (16 * x + y), 4)
    | _, _ => (0, 0)) := by show _ = _; rfl
  generalize (92 :: 120 :: a :: b :: t : List UInt8) = L at *
  unfold rbA
  go_enter Tryz.func193, Tryz.ntmps193
  go_wp2_with (first
    | (go_at_call 196; refine (CA _).mono ?_; rintro e w1 ⟨rfl, hw1⟩; rw [hw1]; clear hw1 CA)
    | (go_at_call 196; refine (CB _).mono ?_; rintro e w1 ⟨rfl, hw1⟩; rw [hw1]; clear hw1 CB)
    | (go_at_call 196; refine (CC _).mono ?_; rintro e w1 ⟨rfl, hw1⟩; rw [hw1]; clear hw1 CC))
  go_quiet (first
    | (go_at_call_of 205 (Value.int IntKind.u8 (a.toNat : Int)); refine Calls.quiet_of_same (IA _))
    | (go_at_call 205; refine Calls.quiet_of_same (IB _)))
  cases ha : hexV a with
  | none =>
    have ha' : hexI a = -1 := by unfold hexI; rw [ha]
    rw [ha] at HE
    rw [ha']
    clear IA IB la lb ha ha'
    go_wp2
    go_ret2
    rw [HE.out]
    exact ⟨rfl, below_drewN (Below.refl _ _) _⟩
  | some x =>
    have ha' : hexI a = (x : Int) := by unfold hexI; rw [ha]
    have hx : x < 16 := by omega
    rw [ha'] 
    cases hb : hexV b with
    | none =>
      have hb' : hexI b = -1 := by unfold hexI; rw [hb]
      rw [ha, hb] at HE
      rw [hb']
      clear IA IB la lb ha ha' hb hb'
      go_wp2
      go_ret2
      rw [HE.out]
      exact ⟨rfl, below_drewN (Below.refl _ _) _⟩
    | some y =>
      have hb' : hexI b = (y : Int) := by unfold hexI; rw [hb]
      have hy : y < 16 := by omega
      rw [ha, hb] at HE
      rw [hb']
      clear IA IB la lb ha ha' hb hb'
      obtain ⟨c, hc⟩ : ∃ c, UInt8.ofNat (16 * x + y) = c := ⟨_, rfl⟩
      have hcn : c.toNat = 16 * x + y := by rw [← hc, UInt8.toNat_ofNat']; omega
      have HE2 : Hid (rdB1 L = if kS c then (0, 0) else (c, 4)) := by
        show _ = _
        rw [HE.out, ← hc]
      clear HE hc
      have CS := shown_any c
      have hci : (x : Int) * 16 + (y : Int) = (c.toNat : Int) := by rw [hcn]; omega
      have hcl : c.toNat < 256 := c.toNat_lt
      clear hcn
      cases hk : kS c with
      | true =>
        rw [hk] at CS HE2
        go_wp2_with (go_at_call 206; refine (CS _).mono ?_; rintro e w1 ⟨rfl, hw1⟩; rw [hw1]; clear hw1)
        go_ret2
        rw [HE2.out]
        exact ⟨rfl, below_drewN (Below.refl _ _) _⟩
      | false =>
        rw [hk] at CS HE2
        go_wp2_with (go_at_call 206; refine (CS _).mono ?_; rintro e w1 ⟨rfl, hw1⟩; rw [hw1]; clear hw1)
        go_ret2
        rw [HE2.out]
        exact ⟨rfl, below_drewN (Below.refl _ _) _⟩
/-- the rest of what may begin a text's byte -/
def oth (l : List UInt8) : Prop := List.isPrefixOf [92, 34] l = false ∧ List.isPrefixOf [92, 92] l = false ∧ (List.isPrefixOf [92, 120] l = false ∨ l.length < 4)
theorem rb_ways (l : List UInt8) : (∃ c t, l = 92 :: c :: t ∧ (c = 34 ∨ c = 92)) ∨ (∃ a b t, l = 92 :: 120 :: a :: b :: t) ∨ (oth l ∧ ((l = [] ∧ rdB1 l = (0, 0)) ∨ ∃ c t, l = c :: t ∧ rdB1 l = if kS c && c.toNat != 34 && c.toNat != 92 then (c, 1) else (0, 0))) := by
  unfold oth
  match l with
  | [] => exact .inr (.inr ⟨⟨rfl, rfl, .inl rfl⟩, .inl ⟨rfl, rfl⟩⟩)
  | [c] => refine .inr (.inr ⟨⟨by simp [List.isPrefixOf], by simp [List.isPrefixOf], .inr (by simp)⟩, .inr ⟨c, [], rfl, ?_⟩⟩); unfold rdB1; split <;> simp_all
  | c :: d :: t =>
    by_cases hc : c = 92
    · subst hc
      by_cases hd : d = 34 ∨ d = 92
      · exact .inl ⟨d, t, rfl, hd⟩
      · have h1 : d ≠ 34 := fun e => hd (.inl e)
        have h2 : d ≠ 92 := fun e => hd (.inr e)
        by_cases hx : d = 120
        · subst hx
          match t with
          | [] => exact .inr (.inr ⟨⟨by simp [List.isPrefixOf], by simp [List.isPrefixOf], .inr (by simp)⟩, .inr ⟨92, [120], rfl, rfl⟩⟩)
          | [a] => exact .inr (.inr ⟨⟨by simp [List.isPrefixOf], by simp [List.isPrefixOf], .inr (by simp)⟩, .inr ⟨92, [120, a], rfl, rfl⟩⟩)
          | a :: b :: t => exact .inr (.inl ⟨a, b, t, rfl⟩)
        · refine .inr (.inr ⟨⟨by simp [List.isPrefixOf]; exact fun e => h1 e.symm, by simp [List.isPrefixOf]; exact fun e => h2 e.symm, .inl (by simp [List.isPrefixOf]; exact fun e => hx e.symm)⟩, .inr ⟨92, d :: t, rfl, ?_⟩⟩)
          unfold rdB1
          split
          · rename_i e; simp at e; exact absurd e.1 h1
          · rename_i e; simp at e; exact absurd e.1 h2
          · rename_i e; simp at e; exact absurd e.1 hx
          · rename_i e; simp at e; obtain ⟨rfl, -⟩ := e; rfl
          · rename_i e; cases e
    · refine .inr (.inr ⟨⟨by simp [List.isPrefixOf]; exact fun e => absurd e.symm hc, by simp [List.isPrefixOf]; exact fun e => absurd e.symm hc, .inl (by simp [List.isPrefixOf]; exact fun e => absurd e.symm hc)⟩, .inr ⟨c, d :: t, rfl, ?_⟩⟩)
      unfold rdB1
      split
      · rename_i e; simp at e; exact absurd e.1 hc
      · rename_i e; simp at e; exact absurd e.1 hc
      · rename_i e; simp at e; exact absurd e.1 hc
      · rename_i e; simp at e; obtain ⟨rfl, -⟩ := e; rfl
      · rename_i e; cases e

set_option maxHeartbeats 1000000 in
set_option maxRecDepth 100000 in
theorem rb_oth (l : List UInt8) (ho : oth l) (hw : (l = [] ∧ rdB1 l = (0, 0)) ∨ ∃ c t, l = c :: t ∧ rdB1 l = if kS c && c.toNat != 34 && c.toNat != 92 then (c, 1) else (0, 0)) (w : World) : Calls Tryz.prog 193 #[.string (S l)] w fun e w' => e = .returned (rbA (rdB1 l)) ∧ w' = w := by
  obtain ⟨h1, h2, h3⟩ := ho
  have CA := hp_any l [92, 34]
  have CB := hp_any l [92, 92]
  have CC := hp_any l [92, 120]
  rw [h1] at CA
  rw [h2] at CB
  have hz := S_size l
  have h3' : (∃ b, List.isPrefixOf [92, 120] l = b ∧ (b = false ∨ (b = true ∧ ¬ (4 : Int) ≤ (l.length : Int)))) := by
    cases q : List.isPrefixOf [92, 120] l with
    | false => exact ⟨_, rfl, .inl rfl⟩
    | true =>
      rcases h3 with h3 | h3
      · rw [q] at h3; cases h3
      · exact ⟨_, rfl, .inr ⟨rfl, by omega⟩⟩
  obtain ⟨b, hb, hbb⟩ := h3'
  rw [hb] at CC
  clear h1 h2 h3 hb
  unfold rbA
  rcases hw with ⟨hl, hr⟩ | ⟨c, t, hl, hr⟩
  · have HR : Hid (rdB1 l = (0, 0)) := hr
    have he : ((S l).toList.isEmpty) = true := by rw [S_toList, hl]; rfl
    have he2 : (S l).toList = [] := by rw [S_toList, hl]
    clear hr hl
    rcases hbb with rfl | ⟨rfl, h4⟩
    all_goals
      go_enter Tryz.func193, Tryz.ntmps193
      go_wp2_with (first
        | (go_at_call 196; refine (CA _).mono ?_; rintro e w1 ⟨rfl, hw1⟩; rw [hw1]; clear hw1 CA)
        | (go_at_call 196; refine (CB _).mono ?_; rintro e w1 ⟨rfl, hw1⟩; rw [hw1]; clear hw1 CB)
        | (go_at_call 196; refine (CC _).mono ?_; rintro e w1 ⟨rfl, hw1⟩; rw [hw1]; clear hw1 CC))
      go_ret2
      rw [HR.out]
      exact ⟨rfl, rfl⟩
  · have hg0 : ∀ (h : 0 < (S l).size), (S l)[0]'h = c := fun h => by rw [S_at l 0 (by rw [← hz]; exact h) h]; simp [hl]
    have hg1 : 0 < l.length := by rw [hl]; simp
    have hg2 : (0 : Int) < (l.length : Int) := by omega
    have he : ((S l).toList.isEmpty) = false := by rw [S_toList, hl]; rfl
    have CS := shown_any c
    have HR : Hid (rdB1 l = if kS c && c.toNat != 34 && c.toNat != 92 then (c, 1) else (0, 0)) := hr
    have hcl : c.toNat < 256 := c.toNat_lt
    clear hr hl
    cases hk : kS c with
    | false =>
      rw [hk] at CS HR
      rcases hbb with rfl | ⟨rfl, h4⟩
      all_goals
        go_enter Tryz.func193, Tryz.ntmps193
        go_wp2_with (first
          | (go_at_call 196; refine (CA _).mono ?_; rintro e w1 ⟨rfl, hw1⟩; rw [hw1]; clear hw1 CA)
          | (go_at_call 196; refine (CB _).mono ?_; rintro e w1 ⟨rfl, hw1⟩; rw [hw1]; clear hw1 CB)
          | (go_at_call 196; refine (CC _).mono ?_; rintro e w1 ⟨rfl, hw1⟩; rw [hw1]; clear hw1 CC)
          | (go_at_call 206; refine (CS _).mono ?_; rintro e w1 ⟨rfl, hw1⟩; rw [hw1]; clear hw1 CS))
        go_ret2
        rw [HR.out]
        exact ⟨rfl, rfl⟩
    | true =>
      rw [hk] at CS HR
      by_cases q1 : c.toNat = 34
      · have q1' : ((c.toNat : Int) != 34) = false := by rw [q1]; rfl
        have HR2 : Hid (rdB1 l = (0, 0)) := by show _ = _; rw [HR.out, q1]; rfl
        clear q1 hk
        rcases hbb with rfl | ⟨rfl, h4⟩
        all_goals
          go_enter Tryz.func193, Tryz.ntmps193
          go_wp2_with (first
            | (go_at_call 196; refine (CA _).mono ?_; rintro e w1 ⟨rfl, hw1⟩; rw [hw1]; clear hw1 CA)
            | (go_at_call 196; refine (CB _).mono ?_; rintro e w1 ⟨rfl, hw1⟩; rw [hw1]; clear hw1 CB)
            | (go_at_call 196; refine (CC _).mono ?_; rintro e w1 ⟨rfl, hw1⟩; rw [hw1]; clear hw1 CC)
            | (go_at_call 206; refine (CS _).mono ?_; rintro e w1 ⟨rfl, hw1⟩; rw [hw1]; clear hw1 CS))
          go_ret2
          rw [HR2.out]
          exact ⟨rfl, rfl⟩
      · have q1' : ((c.toNat : Int) != 34) = true := bne_iff_ne.2 (by omega)
        by_cases q2 : c.toNat = 92
        · have q2' : ((c.toNat : Int) != 92) = false := by rw [q2]; rfl
          have HR2 : Hid (rdB1 l = (0, 0)) := by show _ = _; rw [HR.out, q2]; rfl
          clear q1 q2 hk
          rcases hbb with rfl | ⟨rfl, h4⟩
          all_goals
            go_enter Tryz.func193, Tryz.ntmps193
            go_wp2_with (first
              | (go_at_call 196; refine (CA _).mono ?_; rintro e w1 ⟨rfl, hw1⟩; rw [hw1]; clear hw1 CA)
              | (go_at_call 196; refine (CB _).mono ?_; rintro e w1 ⟨rfl, hw1⟩; rw [hw1]; clear hw1 CB)
              | (go_at_call 196; refine (CC _).mono ?_; rintro e w1 ⟨rfl, hw1⟩; rw [hw1]; clear hw1 CC)
              | (go_at_call 206; refine (CS _).mono ?_; rintro e w1 ⟨rfl, hw1⟩; rw [hw1]; clear hw1 CS))
            go_ret2
            rw [HR2.out]
            exact ⟨rfl, rfl⟩
        · have q2' : ((c.toNat : Int) != 92) = true := bne_iff_ne.2 (by omega)
          have HR2 : Hid (rdB1 l = (c, 1)) := by show _ = _; rw [HR.out, if_pos (by simp [q1, q2])]
          clear q1 q2 hk
          rcases hbb with rfl | ⟨rfl, h4⟩
          all_goals
            go_enter Tryz.func193, Tryz.ntmps193
            go_wp2_with (first
              | (go_at_call 196; refine (CA _).mono ?_; rintro e w1 ⟨rfl, hw1⟩; rw [hw1]; clear hw1 CA)
              | (go_at_call 196; refine (CB _).mono ?_; rintro e w1 ⟨rfl, hw1⟩; rw [hw1]; clear hw1 CB)
              | (go_at_call 196; refine (CC _).mono ?_; rintro e w1 ⟨rfl, hw1⟩; rw [hw1]; clear hw1 CC)
              | (go_at_call 206; refine (CS _).mono ?_; rintro e w1 ⟨rfl, hw1⟩; rw [hw1]; clear hw1 CS))
            go_ret2
            rw [HR2.out]
            exact ⟨rfl, rfl⟩
theorem readByte_any (l : List UInt8) (w : World) : Calls Tryz.prog 193 #[.string (S l)] w fun e w' => e = .returned (rbA (rdB1 l)) ∧ Below w.heap.size w w' := by
  rcases rb_ways l with ⟨c, t, rfl, hc⟩ | ⟨a, b, t, rfl⟩ | ⟨h1, h2⟩
  · have e : rdB1 (92 :: c :: t) = (c, 2) := by rcases hc with rfl | rfl <;> rfl
    rw [e]
    exact (rb_esc c t hc w).mono fun e w' h => ⟨h.1, by rw [h.2]; exact Below.refl _ _⟩
  · exact rb_hex a b t w
  · exact (rb_oth l h1 h2 w).mono fun e w' h => ⟨h.1, by rw [h.2]; exact Below.refl _ _⟩
end Go.Proofs.YtkbhngdabfoboaaGreatDoor.x10
namespace Go.Proofs.YtkbhngdabfoboaaGreatDoor.x10
open Go.RowKit Go.Shelf Go.Sort
open Go.Lib hiding intOf

theorem rd_le (l : List UInt8) : (rdB1 l).2 ≤ l.length := by
  rcases rb_ways l with ⟨c, t, rfl, hc⟩ | ⟨a, b, t, rfl⟩ | ⟨-, ⟨rfl, h⟩ | ⟨c, t, rfl, h⟩⟩
  · rcases hc with rfl | rfl <;> (show 2 ≤ _; simp)
  · show (match hexV a, hexV b with
      | some x, some y => if kS (UInt8.ofNat (16 * x + y)) then ((0 : UInt8), 0) else (UInt8.ofNat (16 * x + y), 4)
      | _, _ => (0, 0)).2 ≤ _
    split
    · split <;> simp
    · simp
  · rw [h]; simp
  · rw [h]; split <;> simp
theorem txs_stop {n : Nat} {acc l : List UInt8} (h : (rdB1 l).2 = 0) : txs n acc l = (acc, l) := by
  cases n with
  | zero => rfl
  | succ n => rw [txs, if_pos h]
theorem txs_go {n : Nat} {acc l : List UInt8} (h : (rdB1 l).2 ≠ 0) : txs (n + 1) acc l = txs n (acc ++ [(rdB1 l).1]) (l.drop (rdB1 l).2) := by rw [txs, if_neg h]
/-- what a text comes to -/
def txtR (l : List UInt8) (st : Rs) : Ot Rs := match (txs l.length [] (l.drop 1)).2 with
  | 34 :: q => .ok { st with now := { st.now with kind := 2, v := (3, 0, (txs l.length [] (l.drop 1)).1) }, beh := st.beh + (l.length - q.length) }
  | _ => .no 10 st.now.at'
/-- what stands in the loop -/
structure Tl (w wr : World) (l acc : List UInt8) (i : Nat) : Prop where
  bd : Bd9 wr w.heap.size w.heap.size acc
  bl : Below w.heap.size w wr
  eq : ∃ k, txs k acc (l.drop i) = txs l.length [] (l.drop 1) ∧ l.length - i ≤ k
  al : acc.length ≤ i
set_option maxHeartbeats 500000 in
set_option maxRecDepth 100000 in
theorem text_any {w : World} {B b : Nat} {s : List UInt8} {st : Rs} {pv : Value} (h : Rm w B b s st pv) (l : List UInt8) (hl : l.length ≤ 512) (hl1 : 1 ≤ l.length) (hb : st.beh ≤ 512) : Calls Tryz.prog 177 #[.pointer (some ⟨b, 0, none⟩), .string (S l)] w (Rp w B b s pv (txtR l st)) := by
  have hz := S_size l
  have hbl := h.ob.lt
  have HF : Hid (∀ W, Below w.heap.size w W → W.cell? ⟨b, 1, none⟩ = some (.int .i64 st.now.kind) ∧ W.cell? ⟨b, 4, none⟩ = some (.int .i64 st.now.v.1) ∧ W.cell? ⟨b, 5, none⟩ = some (.int .i64 st.now.v.2.1) ∧ W.cell? ⟨b, 6, none⟩ = some (.string (S st.now.v.2.2)) ∧ W.cell? ⟨b, 7, none⟩ = some (.int .i64 (st.beh : Int)) ∧ (∀ i, W.frozen? ⟨b, i, none⟩ = false) ∧ b < W.heap.size) := fun W hW => by
    have o := (h.below hW).ob
    exact ⟨o.c 1, o.c 4, o.c 5, o.c 6, o.c 7, o.f, o.lt⟩
  have HRF : Hid (∀ W, Below w.heap.size w W → Calls Tryz.prog 163 #[.pointer (some ⟨b, 0, none⟩)] W fun e w' => e = .panicked (wrg 10 st.now.at') ∧ w' = W) := fun W hW => refuse_any (h.below hW)
  have HH : Hid (Rm w B b s st pv) := h
  have HX : Hid (∀ i, (S l).extract i l.length = S (l.drop i)) := fun i => S_drop l i
  have hx1 := HX.out 1
  have CR := readByte_any (l.drop 1)
  obtain ⟨l1, hl1e⟩ : ∃ l1, l.drop 1 = l1 := ⟨_, rfl⟩
  have HL1 : Hid (l.drop 1 = l1) := hl1e
  rw [hl1e] at hx1 CR
  obtain ⟨c1, n1, hcn1⟩ : ∃ c n, rdB1 l1 = (c, n) := ⟨_, _, rfl⟩
  have HC1 : Hid (rdB1 l1 = (c1, n1)) := hcn1
  rw [hcn1] at CR
  clear hl1e hcn1
  have T0 : Hid (Tl w (w.alloc (.cells #[.pointer none, .slice none 0 0] 122)) l [] 1) := ⟨Bd9.new w, (Below.refl _ w).alloc (Nat.le_refl _) _, ⟨l.length, rfl, by omega⟩, by simp⟩
  have h11 : (1 : Int) ≤ (l.length : Int) := by omega
  unfold rbA at CR
  simp only at CR
  clear h
  go_enter Tryz.func177, Tryz.ntmps177
  go_wp2_with (go_at_call 193; refine (CR _).mono ?_; rintro e w1 ⟨rfl, b1⟩; (have T1 : Hid (Tl w w1 l [] 1) := ⟨T0.out.bd.up b1, bel_of T0.out.bl b1 (Nat.le_refl _), T0.out.eq, T0.out.al⟩); clear b1 CR)
  go_loopw [5, 6, 7] (fun v5 v6 v7 wr => ∃ (i : Nat) (acc : List UInt8), v5 = .int .i64 (i : Int) ∧ v6 = .int .u8 ((rdB1 (l.drop i)).1.toNat : Int) ∧ v7 = .int .i64 ((rdB1 (l.drop i)).2 : Int) ∧ i ≤ l.length ∧ 1 ≤ i ∧ Hid (Tl w wr l acc i)) (fun v5 _ _ _ => l.length - (intOf v5).toNat)
  case atStart => exact ⟨1, [], rfl, by rw [HL1.out, HC1.out], by rw [HL1.out, HC1.out], hl1, Nat.le_refl _, T1⟩
  case round =>
    obtain ⟨i, acc, rfl, rfl, rfl, hi, hi1, HT⟩ := hrel
    have hrl := rd_le (l.drop i)
    rw [List.length_drop] at hrl
    have HST := txs_stop (n := 0) (acc := acc) (l := l.drop i)
    obtain ⟨c, n, hcn⟩ : ∃ c n, rdB1 (l.drop i) = (c, n) := ⟨_, _, rfl⟩
    have HCN : Hid (rdB1 (l.drop i) = (c, n)) := hcn
    rw [hcn] at hrl ⊢
    simp only at hrl ⊢
    have hi0 : (0 : Int) ≤ (i : Int) := by omega
    have hi' : (i : Int) ≤ (l.length : Int) := by omega
    clear hcn HST T0 T1 hx1 HC1 HL1
    by_cases hn : n = 0
    · subst hn
      have hng : ¬ (0 : Int) < 0 := by omega
      have HE : Hid (txs l.length [] (l.drop 1) = (acc, l.drop i)) := by
        obtain ⟨k, h1, -⟩ := HT.out.eq
        show _ = _
        rw [← h1, txs_stop (by rw [HCN.out])]
      by_cases hiL : i = l.length
      · have HR : Hid (txtR l st = .no 10 st.now.at') := by show _ = _; unfold txtR; rw [HE.out, hiL, List.drop_length]
        have hq : ((i : Int) == (l.length : Int)) = true := by rw [hiL]; simp
        have CF := HRF.out _ HT.out.bl
        have HB : Hid (Below w.heap.size w wr) := HT.out.bl
        clear HE HT hiL
        go_wp2_with (go_at_call 163; refine CF.mono ?_; rintro e w2 ⟨rfl, hw2⟩; rw [hw2]; clear hw2)
        rw [HR.out]
        exact ⟨rfl, rfl, Ch.of_below HB.out⟩
      · have hlt : i < l.length := by omega
        have hlt' : (i : Int) < (l.length : Int) := by omega
        have hq : ((i : Int) == (l.length : Int)) = false := by rw [beq_eq_false_iff_ne]; omega
        obtain ⟨x, hx⟩ : ∃ x, l[i] = x := ⟨_, rfl⟩
        have hgi : ∀ (h : i < (S l).size), (S l)[i]'h = x := fun h => (S_at l i hlt h).trans hx
        have hxl : x.toNat < 256 := x.toNat_lt
        have hdr : l.drop i = x :: l.drop (i + 1) := by rw [List.drop_eq_getElem_cons hlt, hx]
        by_cases h34 : x = 34
        · have h34' : ((x.toNat : Int) != 34) = false := by rw [h34]; rfl
          have HR : Hid (txtR l st = .ok { st with now := { st.now with kind := 2, v := (3, 0, acc) }, beh := st.beh + (i + 1) }) := by
            show _ = _
            unfold txtR
            rw [HE.out, hdr, h34]
            simp only
            rw [List.length_drop, show l.length - (l.length - (i + 1)) = i + 1 by omega]
          have HFI : Hid (∀ W, Below w.heap.size w W → Rp w B b s pv (txtR l st) (.returned (.tuple #[])) (((((W.setCell ⟨b, 1, none⟩ (.int .i64 2)).setCell ⟨b, 4, none⟩ (.int .i64 3)).setCell ⟨b, 5, none⟩ (.int .i64 0)).setCell ⟨b, 6, none⟩ (.string (S acc))).setCell ⟨b, 7, none⟩ (.int .i64 ((st.beh : Int) + ((i : Int) + 1))))) := fun W hW => by
            rw [HR.out]
            have hk := HH.out.below hW
            obtain ⟨k1, k2⟩ := hk.sets (st' := { st with now := { st.now with kind := 2, v := (3, 0, acc) }, beh := st.beh + (i + 1) }) (chAt (chAt (chAt (chAt (chAt (chRe W b) 1 (.int .i64 2)) 4 (.int .i64 3)) 5 (.int .i64 0)) 6 (.string (S acc))) 7 (.int .i64 ((st.beh : Int) + ((i : Int) + 1)))) (by
              have := ((((hk.ob.set 1 (.int .i64 2)).set 4 (.int .i64 3)).set 5 (.int .i64 0)).set 6 (.string (S acc))).set 7 (.int .i64 ((st.beh : Int) + ((i : Int) + 1)))
              simpa [rcs] using this) rfl
            exact ⟨rfl, pv, k1, (Lf.of_below b pv hW).trans k2⟩
          have CS := bStr HT.out.bd
          have CV := text_v acc
          have HB : Hid (Below w.heap.size w wr) := HT.out.bl
          clear HE hdr hx h34 HR HT HCN
          go_wp2_with (first
            | (go_at_call 121; refine CS.mono ?_; rintro e w2 ⟨rfl, k2⟩; (have B2 : Hid (Below w.heap.size w w2) := HB.out.trans k2.bel); clear k2 CS)
            | (go_at_call 195; refine (CV _).mono ?_; rintro e w3 ⟨rfl, b3⟩; (have B3 : Hid (Below w.heap.size w w3) := bel_of B2.out b3 (Nat.le_refl _)); obtain ⟨d1, d4, d5, d6, d7, df, dl⟩ := HF.out w3 B3.out; have e1 := df 1; have e4 := df 4; have e5 := df 5; have e6 := df 6; have e7 := df 7; clear b3 df))
          go_end0
          exact HFI.out _ B3.out
        · have h34n : x.toNat ≠ 34 := fun e => h34 (UInt8.toNat_inj.1 e)
          have h34' : ((x.toNat : Int) != 34) = true := bne_iff_ne.2 (by omega)
          have HR : Hid (txtR l st = .no 10 st.now.at') := by
            show _ = _
            unfold txtR
            rw [HE.out, hdr]
            simp only
            split
            · rename_i e
              simp at e
              exact absurd e.1 h34
            · rfl
          have CF := HRF.out _ HT.out.bl
          have HB : Hid (Below w.heap.size w wr) := HT.out.bl
          clear HE HT hdr hx h34 HCN h34n
          go_wp2_with (go_at_call 163; refine CF.mono ?_; rintro e w2 ⟨rfl, hw2⟩; rw [hw2]; clear hw2)
          rw [HR.out]
          exact ⟨rfl, rfl, Ch.of_below HB.out⟩
    · have hng : (0 : Int) < (n : Int) := by omega
      have CB := wByte HT.out.bd c (by have := HT.out.al; omega)
      have hin : i + n ≤ l.length := by omega
      have hin' : (i : Int) + (n : Int) ≤ (l.length : Int) := by omega
      have hin0 : (0 : Int) ≤ (i : Int) + (n : Int) := by omega
      have hx2 := HX.out (i + n)
      have CR := readByte_any (l.drop (i + n))
      obtain ⟨l2, hl2e⟩ : ∃ l2, l.drop (i + n) = l2 := ⟨_, rfl⟩
      have HL2 : Hid (l.drop (i + n) = l2) := hl2e
      rw [hl2e] at hx2 CR
      obtain ⟨c2, n2, hcn2⟩ : ∃ c n, rdB1 l2 = (c, n) := ⟨_, _, rfl⟩
      have HC2 : Hid (rdB1 l2 = (c2, n2)) := hcn2
      rw [hcn2] at CR
      clear hl2e hcn2
      have HNX : Hid (∀ W, Bd9 W w.heap.size w.heap.size (acc ++ [c]) → Below w.heap.size w W → Tl w W l (acc ++ [c]) (i + n)) := fun W q1 q2 => by
        obtain ⟨k, h1, h2⟩ := HT.out.eq
        refine ⟨q1, q2, ⟨k - 1, ?_, by omega⟩, by rw [List.length_append, List.length_singleton]; have := HT.out.al; omega⟩
        obtain ⟨k', rfl⟩ : ∃ k', k = k' + 1 := ⟨k - 1, by omega⟩
        rw [txs_go (by rw [HCN.out]; exact hn), HCN.out] at h1
        rw [← h1, List.drop_drop, Nat.add_sub_cancel]
      have HB : Hid (Below w.heap.size w wr) := HT.out.bl
      unfold rbA at CR
      simp only at CR
      clear HT HCN hn
      go_wp2_with (first
        | (go_at_call 194; refine CB.mono ?_; rintro e w2 ⟨rfl, h2, k2⟩; (have T2 : Hid (Tl w w2 l (acc ++ [c]) (i + n)) := HNX.out w2 h2 (HB.out.trans k2.bel)); clear h2 k2 CB)
        | (go_at_call 193; refine (CR _).mono ?_; rintro e w3 ⟨rfl, b3⟩; (have T3 : Hid (Tl w w3 l (acc ++ [c]) (i + n)) := ⟨T2.out.bd.up b3, bel_of T2.out.bl b3 (Nat.le_refl _), T2.out.eq, T2.out.al⟩); clear b3 CR))
      go_roundw
      case rel => exact ⟨i + n, acc ++ [c], by simp, by rw [HL2.out, HC2.out], by rw [HL2.out, HC2.out], hin, by omega, T3⟩
      case measure => simp [intOf]; omega
end Go.Proofs.YtkbhngdabfoboaaGreatDoor.x10
namespace Go.Proofs.YtkbhngdabfoboaaGreatDoor.x10
open Go.RowKit Go.Shelf Go.Sort
open Go.Lib hiding intOf

theorem Rm.gx {w w' : World} {B b : Nat} {s : List UInt8} {st : Rs} {pv : Value} (h : Rm w B b s st pv) (c : Ch (Fx b pv) w w') : Below B w w' :=
  c.below (by have := h.lo; have := h.ob.lt; omega) (fun k hk e => by
    rcases e with e | e
    · have := h.lo; omega
    · have := (row_obj h.row e).1; omega)
theorem Rp.lift {w W w' : World} {B b : Nat} {s : List UInt8} {pv : Value} {r : Ot Rs} {e : Ending} (L : Lf w b pv W pv) (h : Rp W B b s pv r e w') : Rp w B b s pv r e w' := by
  unfold Rp at h ⊢
  split
  · obtain ⟨h1, pv', h2, h3⟩ := h
    exact ⟨h1, pv', h2, L.trans h3⟩
  · exact ⟨h.1, joinG L.ch h.2 (fun x _ e => e)⟩
  · trivial
theorem take_spn (p : UInt8 → Bool) (l : List UInt8) : l.take (spn p l) = l.takeWhile p := by
  unfold spn
  exact (List.prefix_iff_eq_take.1 (List.takeWhile_prefix p)).symm
theorem nxt_tok {s : List UInt8} {st : Rs} {b0 : Nat} {rest : List UInt8} (h1 : st.beh + spn kB (s.drop st.beh) = b0) (h2 : s.drop b0 = rest) : nxt s st = match tok b0 rest with
    | .ok (t, n) => .ok { st with now := t, beh := b0 + n }
    | .no e a => .no e a
    | .out => .out := by
  unfold nxt
  simp only
  rw [h1, h2]
  rcases tok b0 rest with ⟨t, n⟩ | ⟨e, a⟩ | _ <;> rfl
theorem tw_mem {p : UInt8 → Bool} : ∀ {l : List UInt8} {x : UInt8}, x ∈ l.takeWhile p → p x = true
  | [], _, h => by cases h
  | c :: t, x, h => by
    cases hc : p c with
    | true =>
      rw [List.takeWhile_cons_of_pos hc] at h
      rcases List.mem_cons.1 h with rfl | h
      · exact hc
      · exact tw_mem h
    | false => rw [List.takeWhile_cons_of_neg (by simp [hc])] at h; cases h
set_option maxHeartbeats 4000000 in
set_option maxRecDepth 100000 in
theorem next_any {w : World} {B b : Nat} {s : List UInt8} {st : Rs} {pv : Value} (h : Rm w B b s st pv) (hg : Gx B w) (hs : s.length ≤ 512) (hb : st.beh ≤ s.length) : Calls Tryz.prog 161 #[.pointer (some ⟨b, 0, none⟩)] w (Rp w B b s pv (nxt s st)) := by
  have hz := S_size s
  have hbl := h.ob.lt
  have c0 := h.ob.c 0
  have c1 := h.ob.c 1
  have c2 := h.ob.c 2
  have c3 := h.ob.c 3
  have c4 := h.ob.c 4
  have c5 := h.ob.c 5
  have c6 := h.ob.c 6
  have c7 := h.ob.c 7
  have f1 := h.ob.f 1
  have f2 := h.ob.f 2
  have f3 := h.ob.f 3
  have f4 := h.ob.f 4
  have f5 := h.ob.f 5
  have f6 := h.ob.f 6
  have f7 := h.ob.f 7
  simp only [rcs, List.getElem?_toArray, List.getElem?_cons_zero, List.getElem?_cons_succ] at c0 c1 c2 c3 c4 c5 c6 c7
  have hx := S_drop s st.beh
  have hsp := spn_le kB (s.drop st.beh)
  rw [List.length_drop] at hsp
  have CS := span_blank (s.drop st.beh) (by rw [List.length_drop]; omega)
  obtain ⟨n, hn⟩ : ∃ n, spn kB (s.drop st.beh) = n := ⟨_, rfl⟩
  have HN : Hid (spn kB (s.drop st.beh) = n) := hn
  rw [hn] at CS hsp
  clear hn
  have HH : Hid (Rm w B b s st pv) := h
  have HG : Hid (Gx B w) := hg
  have hbi : (0 : Int) ≤ (st.beh : Int) := by omega
  have hbi2 : (st.beh : Int) ≤ (s.length : Int) := by omega
  obtain ⟨dr, hdr⟩ : ∃ dr, s.drop st.beh = dr := ⟨_, rfl⟩
  rw [hdr] at hx CS
  clear h hg hdr
  go_enter Tryz.func161, Tryz.ntmps161
  go_wp2
  refine Code.wp_mono (Q := Exit.then (fun a' w' => a' = { tmps := #[.pointer (some ⟨b, 0, none⟩), undef, undef, .pointer (some ⟨b, 0, none⟩), .pointer (some ⟨b, 0, none⟩), .pointer (some ⟨b, 7, none⟩), .int .i64 (st.beh : Int), .pointer (some ⟨b, 0, none⟩), .pointer (some ⟨b, 0, none⟩), .pointer (some ⟨b, 0, none⟩), .string (S s), .pointer (some ⟨b, 0, none⟩), .pointer (some ⟨b, 0, none⟩), .pointer (some ⟨b, 7, none⟩), .int .i64 (st.beh : Int), .string (S dr), .int .i64 (n : Int), .int .i64 (IntKind.i64.wrap ((st.beh : Int) + (n : Int))), .pointer (some ⟨b, 0, none⟩), .pointer (some ⟨b, 7, none⟩), undef, undef, undef, undef, undef, undef, undef, undef, undef, undef, undef, undef, undef, undef, undef, undef, undef, undef, undef, undef, undef, undef, undef, undef, undef, undef, undef, undef, undef, undef, undef, undef, undef, undef, undef, undef, undef, undef, undef, undef, undef, undef, undef, undef, undef, undef, undef, undef, undef, undef], defers := [] } ∧ w' = (w.setCell ⟨b, 7, none⟩ (.int .i64 (IntKind.i64.wrap ((st.beh : Int) + (n : Int))))).drew) (fun _ _ _ => False)) ?post ?reg
  case reg =>
    go_region_with (go_at_call 170; refine (CS _).mono ?_; rintro e w1 ⟨rfl, hw1⟩; rw [hw1]; clear hw1)
    all_goals exact ⟨rfl, rfl⟩
  case post =>
    intro e a' w' hq
    obtain ⟨rfl, rfl, rfl⟩ : e = .normal ∧ a' = _ ∧ w' = _ := by
      cases e <;> first | exact ⟨rfl, hq.1, hq.2⟩ | exact hq.elim
    clear hq
    dsimp only
    have hww : IntKind.i64.wrap ((st.beh : Int) + (n : Int)) = ((st.beh + n : Nat) : Int) := by rw [IntKind.wrap_i64]; omega
    rw [hww]
    obtain ⟨b0, hb0⟩ : ∃ b0, st.beh + n = b0 := ⟨_, rfl⟩
    have HB0 : Hid (st.beh + n = b0) := hb0
    rw [hb0]
    have hb0l : b0 ≤ s.length := by omega
    obtain ⟨W0, hW0⟩ : ∃ W0, (w.setCell ⟨b, 7, none⟩ (.int .i64 (b0 : Int))).drew = W0 := ⟨_, rfl⟩
    obtain ⟨R0, L0⟩ : Rm W0 B b s { st with beh := b0 } pv ∧ Lf w b pv W0 pv := by
      rw [← hW0]
      refine HH.out.sets (joinG (chAt (chRe w b) 7 (.int .i64 (b0 : Int))) (drew_ch _ (fun _ => False)) (fun _ _ e => e.elim)) ?_ rfl
      have := HH.out.ob.set 7 (.int .i64 (b0 : Int))
      have h2 : Ro (w.setCell ⟨b, 7, none⟩ (.int .i64 (b0 : Int))).drew b _ := this
      simpa [rcs] using h2
    rw [hW0]
    clear hW0 hww hb0 c0 c1 c2 c3 c4 c5 c6 c7 f1 f2 f3 f4 f5 f6 f7 CS hx
    have c0 := R0.ob.c 0
    have c1 := R0.ob.c 1
    have c2 := R0.ob.c 2
    have c3 := R0.ob.c 3
    have c4 := R0.ob.c 4
    have c5 := R0.ob.c 5
    have c6 := R0.ob.c 6
    have c7 := R0.ob.c 7
    have f1 := R0.ob.f 1
    have f2 := R0.ob.f 2
    have f3 := R0.ob.f 3
    have f4 := R0.ob.f 4
    have f5 := R0.ob.f 5
    have f6 := R0.ob.f 6
    have hlt0 := R0.ob.lt
    simp only [rcs, List.getElem?_toArray, List.getElem?_cons_zero, List.getElem?_cons_succ] at c0 c1 c2 c3 c4 c5 c6 c7
    have HR0 : Hid (Rm W0 B b s { st with beh := b0 } pv ∧ Lf w b pv W0 pv) := ⟨R0, L0⟩
    clear R0 L0
    go_wp2
    obtain ⟨W1, hW1⟩ : ∃ W1, ((((((W0.setCell ⟨b, 1, none⟩ (.int .i64 0)).setCell ⟨b, 2, none⟩ (.int .i64 (b0 : Int))).setCell ⟨b, 3, none⟩ (.string ⟨#[]⟩)).setCell ⟨b, 4, none⟩ (.int .i64 0)).setCell ⟨b, 5, none⟩ (.int .i64 0)).setCell ⟨b, 6, none⟩ (.string ⟨#[]⟩)) = W1 := ⟨_, rfl⟩
    obtain ⟨st2, hst2⟩ : ∃ st2 : Rs, { st with now := ⟨0, b0, [], v0⟩, beh := b0 } = st2 := ⟨_, rfl⟩
    obtain ⟨R1, L1⟩ : Rm W1 B b s st2 pv ∧ Lf w b pv W1 pv := by
      rw [← hW1, ← hst2]
      obtain ⟨k1, k2⟩ := HR0.out.1.sets (st' := { st with now := ⟨0, b0, [], v0⟩, beh := b0 }) (chAt (chAt (chAt (chAt (chAt (chAt (chRe W0 b) 1 (.int .i64 0)) 2 (.int .i64 (b0 : Int))) 3 (.string ⟨#[]⟩)) 4 (.int .i64 0)) 5 (.int .i64 0)) 6 (.string ⟨#[]⟩)) (by
        have := (((((HR0.out.1.ob.set 1 (.int .i64 0)).set 2 (.int .i64 (b0 : Int))).set 3 (.string ⟨#[]⟩)).set 4 (.int .i64 0)).set 5 (.int .i64 0)).set 6 (.string ⟨#[]⟩)
        simpa [rcs, v0, S] using this) rfl
      exact ⟨k1, HR0.out.2.trans k2⟩
    rw [hW1]
    clear hW1 c0 c1 c2 c3 c4 c5 c6 c7 f1 f2 f3 f4 f5 f6 hlt0 HR0
    have c0 : W1.cell? ⟨b, 0, none⟩ = some (.string (S s)) := R1.ob.c 0
    have c7 : W1.cell? ⟨b, 7, none⟩ = some (.int .i64 (b0 : Int)) := by rw [R1.ob.c 7, ← hst2]; rfl
    have hx0 := S_drop s b0
    obtain ⟨rest, hrest⟩ : ∃ rest, s.drop b0 = rest := ⟨_, rfl⟩
    have hrl : rest.length + b0 = s.length := by rw [← hrest, List.length_drop]; omega
    have HTK : Hid (nxt s st = match tok b0 rest with
      | .ok (t, n) => .ok { st with now := t, beh := b0 + n }
      | .no e a => .no e a
      | .out => .out) := nxt_tok (by rw [HN.out, HB0.out]) hrest
    rw [hrest] at hx0
    have hbi3 : (0 : Int) ≤ (b0 : Int) := by omega
    have hbi4 : (b0 : Int) ≤ (s.length : Int) := by omega
    have HR1 : Hid (Rm W1 B b s st2 pv ∧ Lf w b pv W1 pv) := ⟨R1, L1⟩
    have hlt1 := R1.ob.lt
    clear R1 L1 hrest
    go_quiet (fail)
    obtain ⟨W2, hW2⟩ : ∃ W2, W1.drewN nq = W2 := ⟨_, rfl⟩
    have HR2 : Hid (Rm W2 B b s st2 pv ∧ Lf w b pv W2 pv) := by
      have hb2 : Below W1.heap.size W1 W2 := by rw [← hW2]; exact below_drewN (Below.refl _ _) _
      exact ⟨HR1.out.1.below hb2, HR1.out.2.trans (Lf.of_below b pv hb2)⟩
    rw [hW2]
    have hbh : st2.beh ≤ 512 := by rw [← hst2]; simp only; omega
    have HST2 : Hid ({ st with now := ⟨0, b0, [], v0⟩, beh := b0 } = st2) := hst2
    have HLF : Hid (∀ r e w', Rp W2 B b s pv r e w' → Rp w B b s pv r e w') := fun r e w' hR => Rp.lift HR2.out.2 hR
    have HG2 : Hid (Gx B W2) := HG.out.below (HH.out.gx HR2.out.2.ch)
    have hzr := S_size rest
    clear hW2 HR1 c0 c7 hx0 hst2 HB0 HN
    cases hrc : rest with
    | nil =>
      subst hrc
      have HEQ : Hid (nxt s st = .ok st2) := by show _ = _; rw [HTK.out, ← HST2.out]; rfl
      have he : ((S []).toList.isEmpty) = true := by rw [S_toList]; rfl
      have he2 : (S []).toList = [] := S_toList []
      clear HTK
      go_wp2
      first | go_end0 | refine bodyPost_ret (results_none rfl _ _ _) rfl ?_
      rw [HEQ.out]
      exact ⟨rfl, pv, HR2.out.1, HR2.out.2⟩
    | cons c t =>
      have hg0 : ∀ (h : 0 < (S rest).size), (S rest)[0]'h = c := fun h => by rw [S_at rest 0 (by rw [← hzr]; exact h) h]; simp [hrc]
      have hg1 : 0 < rest.length := by rw [hrc]; simp
      have hg2 : (0 : Int) < (rest.length : Int) := by omega
      have he : ((S rest).toList.isEmpty) = false := by rw [S_toList, hrc]; rfl
      have hcl : c.toNat < 256 := c.toNat_lt
      have CD := digit_any c
      have CL := letter_any c
      have hrl2 : rest.length ≤ 512 := by omega
      rw [← hrc]
      cases kd : kD c with
      | true =>
        rw [kd] at CD
        obtain ⟨r, hr⟩ : ∃ r, rest.takeWhile kD = r := ⟨_, rfl⟩
        have CP := span_digit rest (by omega)
        have hpre := S_take rest (spn kD rest)
        rw [take_spn, hr] at hpre
        have hrlen : r.length = spn kD rest := by rw [← hr]; rfl
        have hspl := spn_le kD rest
        have hrne : r ≠ [] := by rw [← hr, hrc, List.takeWhile_cons_of_pos kd]; simp
        have hdig : ∀ x ∈ r, 48 ≤ x.toNat ∧ x.toNat ≤ 57 := fun x hx => by
          rw [← hr] at hx
          have := tw_mem hx
          unfold kD at this
          simpa using this
        have CC := number_any HR2.out.1 HG2.out r hrne (by omega) hdig hbh
        have HEQ : Hid (numR r st2 = nxt s st) := by
          show _ = _
          rw [HTK.out, ← HST2.out, hrc]
          unfold tok numR
          simp only [kd, if_true]
          rw [← hrc, hr]
          have hh : (r.head? = some 48 ∧ r ≠ [48]) ↔ (c = 48 ∧ r ≠ [48]) := by
            have : r.head? = some c := by rw [← hr, hrc, List.takeWhile_cons_of_pos kd]; rfl
            rw [this]; simp
          by_cases hq : numD r ≤ 9223372036854775807 ∧ ¬ (c = 48 ∧ r ≠ [48])
          · rw [if_pos hq, if_pos ⟨hq.1, fun h => hq.2 (hh.1 h)⟩]
          · rw [if_neg hq, if_neg (fun h => hq ⟨h.1, fun h2 => h.2 (hh.2 h2)⟩)]
        generalize spn kD rest = sp at *
        have hsp1 : (0 : Int) ≤ (sp : Int) := by omega
        have hsp2 : (sp : Int) ≤ (rest.length : Int) := by omega
        clear HTK hr hrc hrne hdig kd CL
        rcases hq : numR r st2 with st3 | ⟨er, ea⟩ | _
        · have HQ : Hid (∀ e w', Rp W2 B b s pv (numR r st2) e w' → e = .returned (.tuple #[]) ∧ Hid (Rp w B b s pv (nxt s st) (.returned (.tuple #[])) w')) := fun e w' hR => by
            have h1 := HLF.out _ _ _ hR
            rw [HEQ.out] at h1
            rw [hq] at hR
            obtain ⟨rfl, -⟩ := hR
            exact ⟨rfl, h1⟩
          clear hq HEQ HLF
          go_wp2_with (first
            | (go_at_call 172; refine (CD _).mono ?_; rintro e w3 ⟨rfl, hw3⟩; rw [hw3]; clear hw3 CD)
            | (go_at_call 170; refine (CP _).mono ?_; rintro e w3 ⟨rfl, hw3⟩; rw [hw3]; clear hw3 CP)
            | (go_at_call 173; refine CC.mono ?_; rintro e w4 hR; obtain ⟨he, HX⟩ := HQ.out e w4 hR; subst he; clear hR CC))
          first | go_end0 | refine bodyPost_ret (results_none rfl _ _ _) rfl ?_
          exact HX.out
        · have HQ : Hid (∀ e w', Rp W2 B b s pv (numR r st2) e w' → e = .panicked (wrg er ea) ∧ Hid (Rp w B b s pv (nxt s st) (.panicked (wrg er ea)) w')) := fun e w' hR => by
            have h1 := HLF.out _ _ _ hR
            rw [HEQ.out] at h1
            rw [hq] at hR
            obtain ⟨rfl, -⟩ := hR
            exact ⟨rfl, h1⟩
          clear hq HEQ HLF
          go_wp2_with (first
            | (go_at_call 172; refine (CD _).mono ?_; rintro e w3 ⟨rfl, hw3⟩; rw [hw3]; clear hw3 CD)
            | (go_at_call 170; refine (CP _).mono ?_; rintro e w3 ⟨rfl, hw3⟩; rw [hw3]; clear hw3 CP)
            | (go_at_call 173; refine CC.mono ?_; rintro e w4 hR; obtain ⟨he, HX⟩ := HQ.out e w4 hR; subst he; clear hR CC))
          exact ⟨rfl, HX.out⟩
        · exact absurd hq (by unfold numR; split <;> simp)
      | false =>
        rw [kd] at CD
        cases ka : kA c with
        | true =>
          rw [ka] at CL
          obtain ⟨r, hr⟩ : ∃ r, rest.takeWhile kW = r := ⟨_, rfl⟩
          have CP := span_word rest (by omega)
          have hpre := S_take rest (spn kW rest)
          rw [take_spn, hr] at hpre
          have hrlen : r.length = spn kW rest := by rw [← hr]; rfl
          have hspl := spn_le kW rest
          have CC := word_any HR2.out.1 r (by omega) hbh
          have HEQ : Hid (wrdR r st2 = nxt s st) := by
            show _ = _
            rw [HTK.out, ← HST2.out, hrc]
            unfold tok wrdR
            simp only [kd, ka, if_true, Bool.false_eq_true, if_false]
            rw [← hrc, hr]
            by_cases hq : (namV r || wds.contains r) = true
            · rw [if_pos hq, if_pos hq]
            · rw [if_neg hq, if_neg hq]
          generalize spn kW rest = sp at *
          have hsp1 : (0 : Int) ≤ (sp : Int) := by omega
          have hsp2 : (sp : Int) ≤ (rest.length : Int) := by omega
          clear HTK hr hrc kd ka
          rcases hq : wrdR r st2 with st3 | ⟨er, ea⟩ | _
          · have HQ : Hid (∀ e w', Rp W2 B b s pv (wrdR r st2) e w' → e = .returned (.tuple #[]) ∧ Hid (Rp w B b s pv (nxt s st) (.returned (.tuple #[])) w')) := fun e w' hR => by
              have h1 := HLF.out _ _ _ hR
              rw [HEQ.out] at h1
              rw [hq] at hR
              obtain ⟨rfl, -⟩ := hR
              exact ⟨rfl, h1⟩
            clear hq HEQ HLF
            go_wp2_with (first
              | (go_at_call 172; refine (CD _).mono ?_; rintro e w3 ⟨rfl, hw3⟩; rw [hw3]; clear hw3 CD)
              | (go_at_call 174; refine (CL _).mono ?_; rintro e w3 ⟨rfl, hw3⟩; rw [hw3]; clear hw3 CL)
              | (go_at_call 170; refine (CP _).mono ?_; rintro e w3 ⟨rfl, hw3⟩; rw [hw3]; clear hw3 CP)
              | (go_at_call 175; refine CC.mono ?_; rintro e w4 hR; obtain ⟨he, HX⟩ := HQ.out e w4 hR; subst he; clear hR CC))
            first | go_end0 | refine bodyPost_ret (results_none rfl _ _ _) rfl ?_
            exact HX.out
          · have HQ : Hid (∀ e w', Rp W2 B b s pv (wrdR r st2) e w' → e = .panicked (wrg er ea) ∧ Hid (Rp w B b s pv (nxt s st) (.panicked (wrg er ea)) w')) := fun e w' hR => by
              have h1 := HLF.out _ _ _ hR
              rw [HEQ.out] at h1
              rw [hq] at hR
              obtain ⟨rfl, -⟩ := hR
              exact ⟨rfl, h1⟩
            clear hq HEQ HLF
            go_wp2_with (first
              | (go_at_call 172; refine (CD _).mono ?_; rintro e w3 ⟨rfl, hw3⟩; rw [hw3]; clear hw3 CD)
              | (go_at_call 174; refine (CL _).mono ?_; rintro e w3 ⟨rfl, hw3⟩; rw [hw3]; clear hw3 CL)
              | (go_at_call 170; refine (CP _).mono ?_; rintro e w3 ⟨rfl, hw3⟩; rw [hw3]; clear hw3 CP)
              | (go_at_call 175; refine CC.mono ?_; rintro e w4 hR; obtain ⟨he, HX⟩ := HQ.out e w4 hR; subst he; clear hR CC))
            exact ⟨rfl, HX.out⟩
          · exact absurd hq (by unfold wrdR; split <;> simp)
        | false =>
          rw [ka] at CL
          by_cases h34 : c = 34
          · have h34' : ((c.toNat : Int) == 34) = true := by rw [h34]; rfl
            have CC := text_any HR2.out.1 rest hrl2 hg1 hbh
            have HEQ : Hid (txtR rest st2 = nxt s st) := by
              show _ = _
              rw [HTK.out, ← HST2.out]
              unfold txtR
              have e1 : tok b0 rest = match (txs rest.length [] (rest.drop 1)).2 with
                | 34 :: q => .ok (⟨2, b0, [], (3, 0, (txs rest.length [] (rest.drop 1)).1)⟩, rest.length - q.length)
                | _ => .no 10 b0 := by
                rw [hrc]
                unfold tok
                simp only [kd, ka, Bool.false_eq_true, if_false]
                rw [if_pos h34]
                rfl
              rw [e1]
              generalize txs rest.length [] (rest.drop 1) = z
              obtain ⟨z1, z2⟩ := z
              cases z2 with
              | nil => rfl
              | cons d q =>
                by_cases hd : d = 34
                · subst hd; rfl
                · have m1 : ∀ {α : Type} (A : List UInt8 → α) (D : α), (match d :: q with | 34 :: q => A q | _ => D) = D := fun A D => by
                    split
                    · rename_i e; simp at e; exact absurd e.1 hd
                    · rfl
                  simp only
                  rw [m1 (fun q => Ot.ok _)]
                  split
                  · rename_i e; simp at e; exact absurd e.1 hd
                  · rfl
            clear HTK hrc kd ka h34
            rcases hq : txtR rest st2 with st3 | ⟨er, ea⟩ | _
            · have HQ : Hid (∀ e w', Rp W2 B b s pv (txtR rest st2) e w' → e = .returned (.tuple #[]) ∧ Hid (Rp w B b s pv (nxt s st) (.returned (.tuple #[])) w')) := fun e w' hR => by
                have h1 := HLF.out _ _ _ hR
                rw [HEQ.out] at h1
                rw [hq] at hR
                obtain ⟨rfl, -⟩ := hR
                exact ⟨rfl, h1⟩
              clear hq HEQ HLF
              go_wp2_with (first
                | (go_at_call 172; refine (CD _).mono ?_; rintro e w3 ⟨rfl, hw3⟩; rw [hw3]; clear hw3 CD)
                | (go_at_call 174; refine (CL _).mono ?_; rintro e w3 ⟨rfl, hw3⟩; rw [hw3]; clear hw3 CL)
                | (go_at_call 177; refine CC.mono ?_; rintro e w4 hR; obtain ⟨he, HX⟩ := HQ.out e w4 hR; subst he; clear hR CC))
              first | go_end0 | refine bodyPost_ret (results_none rfl _ _ _) rfl ?_
              exact HX.out
            · have HQ : Hid (∀ e w', Rp W2 B b s pv (txtR rest st2) e w' → e = .panicked (wrg er ea) ∧ Hid (Rp w B b s pv (nxt s st) (.panicked (wrg er ea)) w')) := fun e w' hR => by
                have h1 := HLF.out _ _ _ hR
                rw [HEQ.out] at h1
                rw [hq] at hR
                obtain ⟨rfl, -⟩ := hR
                exact ⟨rfl, h1⟩
              clear hq HEQ HLF
              go_wp2_with (first
                | (go_at_call 172; refine (CD _).mono ?_; rintro e w3 ⟨rfl, hw3⟩; rw [hw3]; clear hw3 CD)
                | (go_at_call 174; refine (CL _).mono ?_; rintro e w3 ⟨rfl, hw3⟩; rw [hw3]; clear hw3 CL)
                | (go_at_call 177; refine CC.mono ?_; rintro e w4 hR; obtain ⟨he, HX⟩ := HQ.out e w4 hR; subst he; clear hR CC))
              exact ⟨rfl, HX.out⟩
            · exact absurd hq (by unfold txtR; split <;> simp)
          · have h34n : c.toNat ≠ 34 := fun e => h34 (UInt8.toNat_inj.1 e)
            have h34' : ((c.toNat : Int) == 34) = false := by rw [beq_eq_false_iff_ne]; omega
            have CC := mark_any HR2.out.1 HG2.out rest hbh
            have HEQ : Hid (mrkR rest st2 = nxt s st) := by
              show _ = _
              rw [HTK.out, ← HST2.out]
              unfold mrkR
              have e1 : tok b0 rest = match mkOf rest with
                | some m => .ok (⟨4, b0, m, v0⟩, m.length)
                | none => .no 10 b0 := by
                rw [hrc]
                unfold tok
                simp only [kd, ka, h34, Bool.false_eq_true, if_false]
                cases mkOf (c :: t) <;> rfl
              rw [e1]
              cases mkOf rest <;> rfl
            clear HTK hrc kd ka h34 h34n
            rcases hq : mrkR rest st2 with st3 | ⟨er, ea⟩ | _
            · have HQ : Hid (∀ e w', Rp W2 B b s pv (mrkR rest st2) e w' → e = .returned (.tuple #[]) ∧ Hid (Rp w B b s pv (nxt s st) (.returned (.tuple #[])) w')) := fun e w' hR => by
                have h1 := HLF.out _ _ _ hR
                rw [HEQ.out] at h1
                rw [hq] at hR
                obtain ⟨rfl, -⟩ := hR
                exact ⟨rfl, h1⟩
              clear hq HEQ HLF
              go_wp2_with (first
                | (go_at_call 172; refine (CD _).mono ?_; rintro e w3 ⟨rfl, hw3⟩; rw [hw3]; clear hw3 CD)
                | (go_at_call 174; refine (CL _).mono ?_; rintro e w3 ⟨rfl, hw3⟩; rw [hw3]; clear hw3 CL)
                | (go_at_call 178; refine CC.mono ?_; rintro e w4 hR; obtain ⟨he, HX⟩ := HQ.out e w4 hR; subst he; clear hR CC))
              first | go_end0 | refine bodyPost_ret (results_none rfl _ _ _) rfl ?_
              exact HX.out
            · have HQ : Hid (∀ e w', Rp W2 B b s pv (mrkR rest st2) e w' → e = .panicked (wrg er ea) ∧ Hid (Rp w B b s pv (nxt s st) (.panicked (wrg er ea)) w')) := fun e w' hR => by
                have h1 := HLF.out _ _ _ hR
                rw [HEQ.out] at h1
                rw [hq] at hR
                obtain ⟨rfl, -⟩ := hR
                exact ⟨rfl, h1⟩
              clear hq HEQ HLF
              go_wp2_with (first
                | (go_at_call 172; refine (CD _).mono ?_; rintro e w3 ⟨rfl, hw3⟩; rw [hw3]; clear hw3 CD)
                | (go_at_call 174; refine (CL _).mono ?_; rintro e w3 ⟨rfl, hw3⟩; rw [hw3]; clear hw3 CL)
                | (go_at_call 178; refine CC.mono ?_; rintro e w4 hR; obtain ⟨he, HX⟩ := HQ.out e w4 hR; subst he; clear hR CC))
              exact ⟨rfl, HX.out⟩
            · exact absurd hq (by unfold mrkR; split <;> simp)
end Go.Proofs.YtkbhngdabfoboaaGreatDoor.x10

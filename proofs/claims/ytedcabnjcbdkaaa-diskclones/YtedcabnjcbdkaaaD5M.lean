/-
  The law's own 'does': one act is answered as the document says; a disk and the document's, side by side.
-/
import Derived.Test.YtedcabnjcbdkaaaD5L
namespace Go.Proofs.Ytedcabnjcbdkaaa
open Go.RowKit Go.Shelf Go.Sort
open Go.Lib hiding intOf
variable {X : Nat → Prop} {w W w1 w2 : World} {B d r : Nat} {es : List Le} {mo : Option Nat} {sv : Value} {st st' : Ab}

/-- an act: its kind, its number, its name, its bytes, what is kept -/
structure Ac where
  kind : Int
  n : Int
  name : ByteArray
  s : ByteArray
  ka : Option Addr
  ks : List Int
  kc : Nat
instance : Inhabited Ac := ⟨⟨0, 0, ⟨#[]⟩, ⟨#[]⟩, none, [], 0⟩⟩
abbrev Ac.cs (x : Ac) : Array Value := #[.int .i64 x.kind, .int .i64 x.n, .string x.name, .string x.s, .slice x.ka x.ks.length x.kc]
/-- what an act needs of memory below B, and what bounds it has -/
structure AcOk (w : World) (B : Nat) (x : Ac) : Prop where
  ks : Ks w x.ka x.ks
  low : x.ks ≠ [] → ∀ a, x.ka = some a → a.block < B
  n : x.n ≤ 9223372036854775807
  name : x.name.size ≤ 9223372036854775807
  s : x.s.size ≤ 9223372036853727231
theorem AcOk.below {x : Ac} (h : AcOk w B x) (hb : Below B w w1) : AcOk w1 B x :=
  ⟨fun j hj => by
    obtain ⟨b, o, e, hc⟩ := h.ks j hj
    exact ⟨b, o, e, (hb.cell (p := ⟨b, o + j, none⟩) (h.low (fun e => by rw [e] at hj; simp at hj) ⟨b, o, none⟩ e)).trans hc⟩, h.low, h.n, h.name, h.s⟩
/-- a disk in block d and the document's in block r have the same; what they take of memory is in X -/
def Pr (X : Nat → Prop) (w : World) (B d r : Nat) (st : Ab) : Prop :=
  ∃ es mo sv, Ld w B d es st.2.1 st.2.2 mo ∧ fil es = st.1 ∧ Dk w r B st.1 st.2.1 st.2.2 sv ∧ B ≤ r ∧ (∀ x, foot d mo es x → X x) ∧ ∀ x, (x = r ∨ sv.ownBlock = some x) → X x
/-- the disk was asked, the document's was not yet -/
def Hf (X : Nat → Prop) (W : World) (B d r : Nat) (st st' : Ab) (sv : Value) (w1 : World) : Prop :=
  (∃ es mo, Ld w1 B d es st'.2.1 st'.2.2 mo ∧ fil es = st'.1 ∧ ∀ x, foot d mo es x → X x ∨ W.heap.size ≤ x) ∧ Dk w1 r B st.1 st.2.1 st.2.2 sv ∧ Ch X W w1 ∧ Below B W w1
theorem half (L : Ld W B d es st.2.1 st.2.2 mo) (K : Dk W r B st.1 st.2.1 st.2.2 sv) (hX : ∀ x, foot d mo es x → X x) (D : Did W B d es mo w1 st') : Hf X W B d r st st' sv w1 := by
  obtain ⟨es', mo', L', e, C, hn⟩ := D
  refine ⟨⟨es', mo', L', e, fun x hx => (hn x hx).imp (hX x) id⟩, K.ch C (fun x hx => L.not_dk K hx), C.mono (fun x _ hx => hX x hx), C.below (Nat.le_of_lt (Nat.lt_of_le_of_lt L.low.1 L.lt)) (fun x hx hf => ?_)⟩
  have := (L.foot_lt hf).2
  omega
theorem half_box (D : Did W B d es mo w1 st') {b i : Nat} {u : Value} (hb : ¬ foot d mo es b) (hc : W.cell? ⟨b, i, none⟩ = some u) : w1.cell? ⟨b, i, none⟩ = some u := by
  obtain ⟨es', mo', L', e, C, hn⟩ := D
  exact C.cell hc hb
theorem fin (h : Hf X W B d r st st' sv w1) (hr : B ≤ r) (hX : ∀ x, (x = r ∨ sv.ownBlock = some x) → X x) (D : DDid w1 B r sv w2 st') : Pr (fun x => X x ∨ W.heap.size ≤ x) w2 B d r st' ∧ Ch X W w2 := by
  obtain ⟨⟨es', mo', L', e, hf⟩, K, C1, B1⟩ := h
  obtain ⟨sv', K', C, hn⟩ := D
  refine ⟨⟨es', mo', sv', L'.ch C (fun x hx hd => L'.not_dk K hd hx), e, K', hr, hf, fun x hx => ?_⟩, C1.trans (C.mono (fun x _ hx => hX x hx))⟩
  rcases hx with rfl | hx
  · exact .inl (hX _ (.inl rfl))
  · rcases hn x hx with h1 | h1
    · exact .inl (hX _ (.inr h1))
    · exact .inr (Nat.le_trans C1.size h1)
/-- what an act leaves -/
def Left (X : Nat → Prop) (w : World) (B d r : Nat) (w' : World) : Prop := ∃ st', Pr (fun x => X x ∨ w.heap.size ≤ x) w' B d r st' ∧ Ch X w w'
theorem left_of (o : Obj) (h : Pr (fun x => X x ∨ (w.alloc o).heap.size ≤ x) w2 B d r st' ∧ Ch X (w.alloc o) w2) : Left X w B d r w2 := by
  obtain ⟨⟨es, mo, sv, L, e, K, hr, h1, h2⟩, C⟩ := h
  have hs : w.heap.size ≤ (w.alloc o).heap.size := by simp
  exact ⟨st', ⟨es, mo, sv, L, e, K, hr, fun x hx => (h1 x hx).imp id (Nat.le_trans hs), fun x hx => (h2 x hx).imp id (Nat.le_trans hs)⟩, ((Ch.refl X w).alloc o).trans C⟩
theorem Ch.drewN {X : Nat → Prop} {a b : World} (h : Ch X a b) (n : Nat) : Ch X a (b.drewN n) := by
  induction n generalizing b with
  | zero => exact h
  | succ n ih => exact (ih h).drew
/-- the document's disk was only read -/
theorem fin_same (h : Hf X W B d r st st sv w1) (hr : B ≤ r) (hX : ∀ x, (x = r ∨ sv.ownBlock = some x) → X x) (n : Nat) : Pr (fun x => X x ∨ W.heap.size ≤ x) (w1.drewN n) B d r st ∧ Ch X W (w1.drewN n) :=
  fin h hr hX ⟨sv, h.2.1.ch ((Ch.refl (fun _ => False) w1).drewN n) (fun _ _ => id), (Ch.refl _ w1).drewN n, fun _ hx => .inl hx⟩
set_option maxRecDepth 100000 in
set_option maxHeartbeats 4000000 in
theorem does1 {n : Int} {nm s : ByteArray} {ka : Option Addr} {ks : List Int} {kc : Nat} (h : Pr X w B d r st) (ok : AcOk w B ⟨1, n, nm, s, ka, ks, kc⟩) :
    Calls Try.prog 14 #[.pointer (some ⟨d, 0, none⟩), .pointer (some ⟨r, 0, none⟩), .agg #[.int .i64 1, .int .i64 n, .string nm, .string s, .slice ka ks.length kc]] w fun e w' => e = .returned (.bool true) ∧ Left X w B d r w' := by
  obtain ⟨fs, p, off⟩ := st
  obtain ⟨es, mo, sv, L0, e, K0, hr, hX1, hX2⟩ := h
  obtain rfl : fil es = fs := e
  have hnf : ¬ foot d mo es w.heap.size := fun hf => by have := (L0.foot_lt hf).1; omega
  have hal : Below w.heap.size w (w.alloc (.cells #[.int .i64 1, .int .i64 n, .string nm, .string s, .slice ka ks.length kc] 30)) := (Below.refl _ w).alloc (Nat.le_refl _) _
  have hBw : B ≤ w.heap.size := Nat.le_of_lt (Nat.lt_of_le_of_lt L0.low.1 L0.lt)
  have okW := ok.below (hal.mono hBw)
  have L := L0.below hal
  have K := K0.below hal
  have hBW : B ≤ (w.alloc (.cells #[.int .i64 1, .int .i64 n, .string nm, .string s, .slice ka ks.length kc] 30)).heap.size := Nat.le_of_lt (Nat.lt_of_le_of_lt L.low.1 L.lt)
  have wf : Wf (fil es, p, off) := St.wf (w := w) (B := B) (d := d) ⟨es, mo, L0, rfl⟩
  have hn := ok.n
  have hnm := ok.name
  have hs := ok.s
  simp only at hn hnm hs
  have b2 : (w.alloc (.cells #[.int .i64 1, .int .i64 n, .string nm, .string s, .slice ka ks.length kc] 30)).cell? ⟨w.heap.size, 2, none⟩ = some (.string nm) := cell_of_row _ _ _ _ _ _ (heap_alloc_new w _)
  have b3 : (w.alloc (.cells #[.int .i64 1, .int .i64 n, .string nm, .string s, .slice ka ks.length kc] 30)).cell? ⟨w.heap.size, 3, none⟩ = some (.string s) := cell_of_row _ _ _ _ _ _ (heap_alloc_new w _)
  have cA := Append_any L nm s hnm hBW
  have HP : Hid (¬ foot d mo es w.heap.size ∧ Ld (w.alloc (.cells #[.int .i64 1, .int .i64 n, .string nm, .string s, .slice ka ks.length kc] 30)) B d es p off mo ∧ Dk (w.alloc (.cells #[.int .i64 1, .int .i64 n, .string nm, .string s, .slice ka ks.length kc] 30)) r B (fil es) p off sv ∧ B ≤ r ∧ (∀ x, foot d mo es x → X x) ∧ ∀ x, (x = r ∨ sv.ownBlock = some x) → X x) := ⟨hnf, L, K, hr, hX1, hX2⟩
  clear hnf hr hX1 hX2 L K L0 K0 hal ok
  go_enter Try.func14, Try.ntmps14
  go_wp2_with (first
    | (go_at_call 19; refine cA.mono ?_; rintro e w1 ⟨rfl, D1⟩; have b2' := half_box D1 HP.out.1 b2; have b3' := half_box D1 HP.out.1 b3; have HH : Hid (Hf X _ B d r (fil es, p, off) (aApp (fil es, p, off) nm s).2 sv w1) := half HP.out.2.1 HP.out.2.2.1 HP.out.2.2.2.2.1 D1; have cD := dApp HH.out.2.1 wf (Nat.le_trans hBW HH.out.2.2.1.size) nm s hs; clear cA D1)
    | (go_at_call 28; refine cD.mono ?_; rintro e w2 ⟨rfl, D2⟩; have HZ : Hid (Left X w B d r w2) := left_of _ (fin HH.out HP.out.2.2.2.1 HP.out.2.2.2.2.2 D2); clear cD D2))
  go_ret
  exact ⟨by simp, HZ.out⟩
set_option maxRecDepth 100000 in
set_option maxHeartbeats 4000000 in
theorem does2 {n : Int} {nm s : ByteArray} {ka : Option Addr} {ks : List Int} {kc : Nat} (h : Pr X w B d r st) (ok : AcOk w B ⟨2, n, nm, s, ka, ks, kc⟩) :
    Calls Try.prog 14 #[.pointer (some ⟨d, 0, none⟩), .pointer (some ⟨r, 0, none⟩), .agg #[.int .i64 2, .int .i64 n, .string nm, .string s, .slice ka ks.length kc]] w fun e w' => e = .returned (.bool true) ∧ Left X w B d r w' := by
  obtain ⟨fs, p, off⟩ := st
  obtain ⟨es, mo, sv, L0, e, K0, hr, hX1, hX2⟩ := h
  obtain rfl : fil es = fs := e
  have hnf : ¬ foot d mo es w.heap.size := fun hf => by have := (L0.foot_lt hf).1; omega
  have hal : Below w.heap.size w (w.alloc (.cells #[.int .i64 2, .int .i64 n, .string nm, .string s, .slice ka ks.length kc] 30)) := (Below.refl _ w).alloc (Nat.le_refl _) _
  have hBw : B ≤ w.heap.size := Nat.le_of_lt (Nat.lt_of_le_of_lt L0.low.1 L0.lt)
  have okW := ok.below (hal.mono hBw)
  have L := L0.below hal
  have K := K0.below hal
  have hBW : B ≤ (w.alloc (.cells #[.int .i64 2, .int .i64 n, .string nm, .string s, .slice ka ks.length kc] 30)).heap.size := Nat.le_of_lt (Nat.lt_of_le_of_lt L.low.1 L.lt)
  have wf : Wf (fil es, p, off) := St.wf (w := w) (B := B) (d := d) ⟨es, mo, L0, rfl⟩
  have hn := ok.n
  have hnm := ok.name
  have hs := ok.s
  simp only at hn hnm hs
  have b2 : (w.alloc (.cells #[.int .i64 2, .int .i64 n, .string nm, .string s, .slice ka ks.length kc] 30)).cell? ⟨w.heap.size, 2, none⟩ = some (.string nm) := cell_of_row _ _ _ _ _ _ (heap_alloc_new w _)
  have cA := Sync_any L nm hnm
  have HP : Hid (¬ foot d mo es w.heap.size ∧ Ld (w.alloc (.cells #[.int .i64 2, .int .i64 n, .string nm, .string s, .slice ka ks.length kc] 30)) B d es p off mo ∧ Dk (w.alloc (.cells #[.int .i64 2, .int .i64 n, .string nm, .string s, .slice ka ks.length kc] 30)) r B (fil es) p off sv ∧ B ≤ r ∧ (∀ x, foot d mo es x → X x) ∧ ∀ x, (x = r ∨ sv.ownBlock = some x) → X x) := ⟨hnf, L, K, hr, hX1, hX2⟩
  clear hnf hr hX1 hX2 L K L0 K0 hal ok
  go_enter Try.func14, Try.ntmps14
  go_wp2_with (first
    | (go_at_call 20; refine cA.mono ?_; rintro e w1 ⟨rfl, D1⟩; have b2' := half_box D1 HP.out.1 b2; have HH : Hid (Hf X _ B d r (fil es, p, off) (aSync (fil es, p, off) nm).2 sv w1) := half HP.out.2.1 HP.out.2.2.1 HP.out.2.2.2.2.1 D1; have cD := dSync HH.out.2.1 wf nm; clear cA D1)
    | (go_at_call 29; refine cD.mono ?_; rintro e w2 ⟨rfl, D2⟩; have HZ : Hid (Left X w B d r w2) := left_of _ (fin HH.out HP.out.2.2.2.1 HP.out.2.2.2.2.2 D2); clear cD D2))
  go_ret
  exact ⟨by simp, HZ.out⟩
set_option maxRecDepth 100000 in
set_option maxHeartbeats 4000000 in
theorem does3 {n : Int} {nm s : ByteArray} {ka : Option Addr} {ks : List Int} {kc : Nat} (h : Pr X w B d r st) (ok : AcOk w B ⟨3, n, nm, s, ka, ks, kc⟩) :
    Calls Try.prog 14 #[.pointer (some ⟨d, 0, none⟩), .pointer (some ⟨r, 0, none⟩), .agg #[.int .i64 3, .int .i64 n, .string nm, .string s, .slice ka ks.length kc]] w fun e w' => e = .returned (.bool true) ∧ Left X w B d r w' := by
  obtain ⟨fs, p, off⟩ := st
  obtain ⟨es, mo, sv, L0, e, K0, hr, hX1, hX2⟩ := h
  obtain rfl : fil es = fs := e
  have hnf : ¬ foot d mo es w.heap.size := fun hf => by have := (L0.foot_lt hf).1; omega
  have hal : Below w.heap.size w (w.alloc (.cells #[.int .i64 3, .int .i64 n, .string nm, .string s, .slice ka ks.length kc] 30)) := (Below.refl _ w).alloc (Nat.le_refl _) _
  have hBw : B ≤ w.heap.size := Nat.le_of_lt (Nat.lt_of_le_of_lt L0.low.1 L0.lt)
  have okW := ok.below (hal.mono hBw)
  have L := L0.below hal
  have K := K0.below hal
  have hBW : B ≤ (w.alloc (.cells #[.int .i64 3, .int .i64 n, .string nm, .string s, .slice ka ks.length kc] 30)).heap.size := Nat.le_of_lt (Nat.lt_of_le_of_lt L.low.1 L.lt)
  have wf : Wf (fil es, p, off) := St.wf (w := w) (B := B) (d := d) ⟨es, mo, L0, rfl⟩
  have hn := ok.n
  have hnm := ok.name
  have hs := ok.s
  simp only at hn hnm hs
  have b2 : (w.alloc (.cells #[.int .i64 3, .int .i64 n, .string nm, .string s, .slice ka ks.length kc] 30)).cell? ⟨w.heap.size, 2, none⟩ = some (.string nm) := cell_of_row _ _ _ _ _ _ (heap_alloc_new w _)
  have b1 : (w.alloc (.cells #[.int .i64 3, .int .i64 n, .string nm, .string s, .slice ka ks.length kc] 30)).cell? ⟨w.heap.size, 1, none⟩ = some (.int .i64 n) := cell_of_row _ _ _ _ _ _ (heap_alloc_new w _)
  have cA := Cut_any L nm n hnm
  have HP : Hid (¬ foot d mo es w.heap.size ∧ Ld (w.alloc (.cells #[.int .i64 3, .int .i64 n, .string nm, .string s, .slice ka ks.length kc] 30)) B d es p off mo ∧ Dk (w.alloc (.cells #[.int .i64 3, .int .i64 n, .string nm, .string s, .slice ka ks.length kc] 30)) r B (fil es) p off sv ∧ B ≤ r ∧ (∀ x, foot d mo es x → X x) ∧ ∀ x, (x = r ∨ sv.ownBlock = some x) → X x) := ⟨hnf, L, K, hr, hX1, hX2⟩
  clear hnf hr hX1 hX2 L K L0 K0 hal ok
  go_enter Try.func14, Try.ntmps14
  go_wp2_with (first
    | (go_at_call 24; refine cA.mono ?_; rintro e w1 ⟨rfl, D1⟩; have b2' := half_box D1 HP.out.1 b2; have b1' := half_box D1 HP.out.1 b1; have HH : Hid (Hf X _ B d r (fil es, p, off) (aCut (fil es, p, off) nm n).2 sv w1) := half HP.out.2.1 HP.out.2.2.1 HP.out.2.2.2.2.1 D1; have cD := dCut HH.out.2.1 wf nm n; clear cA D1)
    | (go_at_call 30; refine cD.mono ?_; rintro e w2 ⟨rfl, D2⟩; have HZ : Hid (Left X w B d r w2) := left_of _ (fin HH.out HP.out.2.2.2.1 HP.out.2.2.2.2.2 D2); clear cD D2))
  go_ret
  exact ⟨by simp, HZ.out⟩
set_option maxRecDepth 100000 in
set_option maxHeartbeats 4000000 in
theorem does4 {n : Int} {nm s : ByteArray} {ka : Option Addr} {ks : List Int} {kc : Nat} (h : Pr X w B d r st) (ok : AcOk w B ⟨4, n, nm, s, ka, ks, kc⟩) :
    Calls Try.prog 14 #[.pointer (some ⟨d, 0, none⟩), .pointer (some ⟨r, 0, none⟩), .agg #[.int .i64 4, .int .i64 n, .string nm, .string s, .slice ka ks.length kc]] w fun e w' => e = .returned (.bool true) ∧ Left X w B d r w' := by
  obtain ⟨fs, p, off⟩ := st
  obtain ⟨es, mo, sv, L0, e, K0, hr, hX1, hX2⟩ := h
  obtain rfl : fil es = fs := e
  have hnf : ¬ foot d mo es w.heap.size := fun hf => by have := (L0.foot_lt hf).1; omega
  have hal : Below w.heap.size w (w.alloc (.cells #[.int .i64 4, .int .i64 n, .string nm, .string s, .slice ka ks.length kc] 30)) := (Below.refl _ w).alloc (Nat.le_refl _) _
  have hBw : B ≤ w.heap.size := Nat.le_of_lt (Nat.lt_of_le_of_lt L0.low.1 L0.lt)
  have okW := ok.below (hal.mono hBw)
  have L := L0.below hal
  have K := K0.below hal
  have hBW : B ≤ (w.alloc (.cells #[.int .i64 4, .int .i64 n, .string nm, .string s, .slice ka ks.length kc] 30)).heap.size := Nat.le_of_lt (Nat.lt_of_le_of_lt L.low.1 L.lt)
  have wf : Wf (fil es, p, off) := St.wf (w := w) (B := B) (d := d) ⟨es, mo, L0, rfl⟩
  have hn := ok.n
  have hnm := ok.name
  have hs := ok.s
  simp only at hn hnm hs
  have b2 : (w.alloc (.cells #[.int .i64 4, .int .i64 n, .string nm, .string s, .slice ka ks.length kc] 30)).cell? ⟨w.heap.size, 2, none⟩ = some (.string nm) := cell_of_row _ _ _ _ _ _ (heap_alloc_new w _)
  have cA := Delete_any L nm hnm
  have HP : Hid (¬ foot d mo es w.heap.size ∧ Ld (w.alloc (.cells #[.int .i64 4, .int .i64 n, .string nm, .string s, .slice ka ks.length kc] 30)) B d es p off mo ∧ Dk (w.alloc (.cells #[.int .i64 4, .int .i64 n, .string nm, .string s, .slice ka ks.length kc] 30)) r B (fil es) p off sv ∧ B ≤ r ∧ (∀ x, foot d mo es x → X x) ∧ ∀ x, (x = r ∨ sv.ownBlock = some x) → X x) := ⟨hnf, L, K, hr, hX1, hX2⟩
  clear hnf hr hX1 hX2 L K L0 K0 hal ok
  go_enter Try.func14, Try.ntmps14
  go_wp2_with (first
    | (go_at_call 25; refine cA.mono ?_; rintro e w1 ⟨rfl, D1⟩; have b2' := half_box D1 HP.out.1 b2; have HH : Hid (Hf X _ B d r (fil es, p, off) (aDel (fil es, p, off) nm).2 sv w1) := half HP.out.2.1 HP.out.2.2.1 HP.out.2.2.2.2.1 D1; have cD := dDel HH.out.2.1 wf (Nat.le_trans hBW HH.out.2.2.1.size) nm; clear cA D1)
    | (go_at_call 31; refine cD.mono ?_; rintro e w2 ⟨rfl, D2⟩; have HZ : Hid (Left X w B d r w2) := left_of _ (fin HH.out HP.out.2.2.2.1 HP.out.2.2.2.2.2 D2); clear cD D2))
  go_ret
  exact ⟨by simp, HZ.out⟩
set_option maxRecDepth 100000 in
set_option maxHeartbeats 4000000 in
theorem does6 {n : Int} {nm s : ByteArray} {ka : Option Addr} {ks : List Int} {kc : Nat} (h : Pr X w B d r st) (ok : AcOk w B ⟨6, n, nm, s, ka, ks, kc⟩) :
    Calls Try.prog 14 #[.pointer (some ⟨d, 0, none⟩), .pointer (some ⟨r, 0, none⟩), .agg #[.int .i64 6, .int .i64 n, .string nm, .string s, .slice ka ks.length kc]] w fun e w' => e = .returned (.bool true) ∧ Left X w B d r w' := by
  obtain ⟨fs, p, off⟩ := st
  obtain ⟨es, mo, sv, L0, e, K0, hr, hX1, hX2⟩ := h
  obtain rfl : fil es = fs := e
  have hnf : ¬ foot d mo es w.heap.size := fun hf => by have := (L0.foot_lt hf).1; omega
  have hal : Below w.heap.size w (w.alloc (.cells #[.int .i64 6, .int .i64 n, .string nm, .string s, .slice ka ks.length kc] 30)) := (Below.refl _ w).alloc (Nat.le_refl _) _
  have hBw : B ≤ w.heap.size := Nat.le_of_lt (Nat.lt_of_le_of_lt L0.low.1 L0.lt)
  have okW := ok.below (hal.mono hBw)
  have L := L0.below hal
  have K := K0.below hal
  have hBW : B ≤ (w.alloc (.cells #[.int .i64 6, .int .i64 n, .string nm, .string s, .slice ka ks.length kc] 30)).heap.size := Nat.le_of_lt (Nat.lt_of_le_of_lt L.low.1 L.lt)
  have wf : Wf (fil es, p, off) := St.wf (w := w) (B := B) (d := d) ⟨es, mo, L0, rfl⟩
  have hn := ok.n
  have hnm := ok.name
  have hs := ok.s
  simp only at hn hnm hs
  have b1 : (w.alloc (.cells #[.int .i64 6, .int .i64 n, .string nm, .string s, .slice ka ks.length kc] 30)).cell? ⟨w.heap.size, 1, none⟩ = some (.int .i64 n) := cell_of_row _ _ _ _ _ _ (heap_alloc_new w _)
  have cA := (Power_any L n hn).mono (fun _ _ x => show _ ∧ Did _ B d es mo _ (aPow (fil es, p, off) n) from ⟨x.1, Did.own x.2.1 x.2.2⟩)
  have HP : Hid (¬ foot d mo es w.heap.size ∧ Ld (w.alloc (.cells #[.int .i64 6, .int .i64 n, .string nm, .string s, .slice ka ks.length kc] 30)) B d es p off mo ∧ Dk (w.alloc (.cells #[.int .i64 6, .int .i64 n, .string nm, .string s, .slice ka ks.length kc] 30)) r B (fil es) p off sv ∧ B ≤ r ∧ (∀ x, foot d mo es x → X x) ∧ ∀ x, (x = r ∨ sv.ownBlock = some x) → X x) := ⟨hnf, L, K, hr, hX1, hX2⟩
  clear hnf hr hX1 hX2 L K L0 K0 hal ok
  go_enter Try.func14, Try.ntmps14
  go_wp2_with (first
    | (go_at_call 26; refine cA.mono ?_; rintro e w1 ⟨⟨x1, rfl⟩, D1⟩; have b1' := half_box D1 HP.out.1 b1; have HH : Hid (Hf X _ B d r (fil es, p, off) (aPow (fil es, p, off) n) sv w1) := half HP.out.2.1 HP.out.2.2.1 HP.out.2.2.2.2.1 D1; have cD := dPower HH.out.2.1 n; clear cA D1)
    | (go_at_call 32; refine cD.mono ?_; rintro e w2 ⟨⟨x2, rfl⟩, D2⟩; have HZ : Hid (Left X w B d r w2) := left_of _ (fin HH.out HP.out.2.2.2.1 HP.out.2.2.2.2.2 D2); clear cD D2))
  go_ret
  exact ⟨by simp, HZ.out⟩
set_option maxRecDepth 100000 in
set_option maxHeartbeats 4000000 in
theorem does7 {n : Int} {nm s : ByteArray} {ka : Option Addr} {ks : List Int} {kc : Nat} (h : Pr X w B d r st) (ok : AcOk w B ⟨7, n, nm, s, ka, ks, kc⟩) :
    Calls Try.prog 14 #[.pointer (some ⟨d, 0, none⟩), .pointer (some ⟨r, 0, none⟩), .agg #[.int .i64 7, .int .i64 n, .string nm, .string s, .slice ka ks.length kc]] w fun e w' => e = .returned (.bool true) ∧ Left X w B d r w' := by
  obtain ⟨fs, p, off⟩ := st
  obtain ⟨es, mo, sv, L0, e, K0, hr, hX1, hX2⟩ := h
  obtain rfl : fil es = fs := e
  have hnf : ¬ foot d mo es w.heap.size := fun hf => by have := (L0.foot_lt hf).1; omega
  have hal : Below w.heap.size w (w.alloc (.cells #[.int .i64 7, .int .i64 n, .string nm, .string s, .slice ka ks.length kc] 30)) := (Below.refl _ w).alloc (Nat.le_refl _) _
  have hBw : B ≤ w.heap.size := Nat.le_of_lt (Nat.lt_of_le_of_lt L0.low.1 L0.lt)
  have okW := ok.below (hal.mono hBw)
  have L := L0.below hal
  have K := K0.below hal
  have hBW : B ≤ (w.alloc (.cells #[.int .i64 7, .int .i64 n, .string nm, .string s, .slice ka ks.length kc] 30)).heap.size := Nat.le_of_lt (Nat.lt_of_le_of_lt L.low.1 L.lt)
  have wf : Wf (fil es, p, off) := St.wf (w := w) (B := B) (d := d) ⟨es, mo, L0, rfl⟩
  have hn := ok.n
  have hnm := ok.name
  have hs := ok.s
  simp only at hn hnm hs
  have b4 : (w.alloc (.cells #[.int .i64 7, .int .i64 n, .string nm, .string s, .slice ka ks.length kc] 30)).cell? ⟨w.heap.size, 4, none⟩ = some (.slice ka ks.length kc) := cell_of_row _ _ _ _ _ _ (heap_alloc_new w _)
  have cA := Crash_any L (kc := kc) okW.ks (fun h0 a e => ⟨fun hf => by have := (L.foot_lt hf).2; have := okW.low h0 a e; omega, Nat.lt_of_lt_of_le (okW.low h0 a e) hBW⟩)
  have HP : Hid (¬ foot d mo es w.heap.size ∧ Ld (w.alloc (.cells #[.int .i64 7, .int .i64 n, .string nm, .string s, .slice ka ks.length kc] 30)) B d es p off mo ∧ Dk (w.alloc (.cells #[.int .i64 7, .int .i64 n, .string nm, .string s, .slice ka ks.length kc] 30)) r B (fil es) p off sv ∧ B ≤ r ∧ (∀ x, foot d mo es x → X x) ∧ ∀ x, (x = r ∨ sv.ownBlock = some x) → X x) := ⟨hnf, L, K, hr, hX1, hX2⟩
  clear hnf hr hX1 hX2 L K L0 K0 hal ok
  go_enter Try.func14, Try.ntmps14
  go_wp2_with (first
    | (go_at_call 21; refine cA.mono ?_; rintro e w1 ⟨⟨x1, rfl⟩, D1⟩; have b4' := half_box D1 HP.out.1 b4; have HH : Hid (Hf X _ B d r (fil es, p, off) (aCrash (fil es, p, off) ks) sv w1) := half HP.out.2.1 HP.out.2.2.1 HP.out.2.2.2.2.1 D1; have cD := dCrash (kc := kc) HH.out.2.1 wf (okW.below HH.out.2.2.2).ks (fun h0 a e h2 => by have h3 := okW.low h0 a e; rcases h2 with h2 | h2; (have := HP.out.2.2.2.1; omega); (have := (row_obj HH.out.2.1.row h2).1; omega)); clear cA D1)
    | (go_at_call 33; refine cD.mono ?_; rintro e w2 ⟨⟨x2, rfl⟩, D2⟩; have HZ : Hid (Left X w B d r w2) := left_of _ (fin HH.out HP.out.2.2.2.1 HP.out.2.2.2.2.2 D2); clear cD D2))
  go_ret
  exact ⟨by simp, HZ.out⟩
set_option maxRecDepth 100000 in
set_option maxHeartbeats 4000000 in
theorem does5 {n : Int} {nm s : ByteArray} {ka : Option Addr} {ks : List Int} {kc : Nat} (h : Pr X w B d r st) (ok : AcOk w B ⟨5, n, nm, s, ka, ks, kc⟩) :
    Calls Try.prog 14 #[.pointer (some ⟨d, 0, none⟩), .pointer (some ⟨r, 0, none⟩), .agg #[.int .i64 5, .int .i64 n, .string nm, .string s, .slice ka ks.length kc]] w fun e w' => e = .returned (.bool true) ∧ Left X w B d r w' := by
  obtain ⟨fs, p, off⟩ := st
  obtain ⟨es, mo, sv, L0, e, K0, hr, hX1, hX2⟩ := h
  obtain rfl : fil es = fs := e
  have hal : Below w.heap.size w (w.alloc (.cells #[.int .i64 5, .int .i64 n, .string nm, .string s, .slice ka ks.length kc] 30)) := (Below.refl _ w).alloc (Nat.le_refl _) _
  have L := L0.below hal
  have K := K0.below hal
  have wf : Wf (fil es, p, off) := St.wf (w := w) (B := B) (d := d) ⟨es, mo, L0, rfl⟩
  have hnm := ok.name
  simp only at hnm
  have b2 : (w.alloc (.cells #[.int .i64 5, .int .i64 n, .string nm, .string s, .slice ka ks.length kc] 30)).cell? ⟨w.heap.size, 2, none⟩ = some (.string nm) := cell_of_row _ _ _ _ _ _ (heap_alloc_new w _)
  have cA := Read_any L nm hnm
  have cD := dRead K wf nm
  have HP : Hid (Hf X (w.alloc (.cells #[.int .i64 5, .int .i64 n, .string nm, .string s, .slice ka ks.length kc] 30)) B d r (fil es, p, off) (fil es, p, off) sv (w.alloc (.cells #[.int .i64 5, .int .i64 n, .string nm, .string s, .slice ka ks.length kc] 30)) ∧ B ≤ r ∧ ∀ x, (x = r ∨ sv.ownBlock = some x) → X x) := ⟨half (st := (fil es, p, off)) L K hX1 (Did.same L), hr, hX2⟩
  clear hr hX1 hX2 L K L0 K0 hal ok
  generalize aRead (fil es, p, off) nm = q at *
  obtain ⟨q1, q2⟩ := q
  go_enter Try.func14, Try.ntmps14
  go_wp2_with (first
    | (go_at_call 22; refine cA.mono ?_; rintro e w1 ⟨rfl, rfl⟩; clear cA)
    | (go_at_call 23; refine cD.mono ?_; rintro e w2 ⟨rfl, N, rfl⟩; have HZ : Hid (Left X w B d r _) := left_of _ (fin_same HP.out.1 HP.out.2.1 HP.out.2.2 N); clear cD))
  go_ret
  exact ⟨by simp, HZ.out⟩
set_option maxRecDepth 100000 in
set_option maxHeartbeats 4000000 in
theorem does0 {k n : Int} {nm s : ByteArray} {ka : Option Addr} {ks : List Int} {kc : Nat} (h : Pr X w B d r st) (h1 : (k == 1) = false) (h2 : (k == 2) = false) (h3 : (k == 3) = false) (h4 : (k == 4) = false) (h5 : (k == 5) = false) (h6 : (k == 6) = false) (h7 : (k == 7) = false) :
    Calls Try.prog 14 #[.pointer (some ⟨d, 0, none⟩), .pointer (some ⟨r, 0, none⟩), .agg #[.int .i64 k, .int .i64 n, .string nm, .string s, .slice ka ks.length kc]] w fun e w' => e = .returned (.bool true) ∧ Left X w B d r w' := by
  obtain ⟨fs, p, off⟩ := st
  obtain ⟨es, mo, sv, L0, e, K0, hr, hX1, hX2⟩ := h
  obtain rfl : fil es = fs := e
  have hal : Below w.heap.size w (w.alloc (.cells #[.int .i64 k, .int .i64 n, .string nm, .string s, .slice ka ks.length kc] 30)) := (Below.refl _ w).alloc (Nat.le_refl _) _
  have L := L0.below hal
  have K := K0.below hal
  have HZ : Hid (Left X w B d r _) := left_of _ (fin_same (half (st := (fil es, p, off)) L K hX1 (Did.same L)) hr hX2 0)
  clear hr hX1 hX2 L K L0 K0 hal
  go_enter Try.func14, Try.ntmps14
  go_wp2
  go_ret
  exact ⟨rfl, HZ.out⟩
/-- one act -/
theorem does_any {a : Ac} (h : Pr X w B d r st) (ok : AcOk w B a) :
    Calls Try.prog 14 #[.pointer (some ⟨d, 0, none⟩), .pointer (some ⟨r, 0, none⟩), .agg a.cs] w fun e w' => e = .returned (.bool true) ∧ Left X w B d r w' := by
  obtain ⟨k, n, nm, s, ka, ks, kc⟩ := a
  by_cases h1 : k = 1
  · subst h1; exact does1 h ok
  by_cases h2 : k = 2
  · subst h2; exact does2 h ok
  by_cases h3 : k = 3
  · subst h3; exact does3 h ok
  by_cases h4 : k = 4
  · subst h4; exact does4 h ok
  by_cases h5 : k = 5
  · subst h5; exact does5 h ok
  by_cases h6 : k = 6
  · subst h6; exact does6 h ok
  by_cases h7 : k = 7
  · subst h7; exact does7 h ok
  exact does0 h (by simpa using h1) (by simpa using h2) (by simpa using h3) (by simpa using h4) (by simpa using h5) (by simpa using h6) (by simpa using h7)
end Go.Proofs.Ytedcabnjcbdkaaa

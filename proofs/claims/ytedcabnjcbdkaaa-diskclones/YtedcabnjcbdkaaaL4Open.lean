/-
  Package disk: fits, open.
-/
import Derived.Test.YtedcabnjcbdkaaaL4Crash
import Derived.Test.YtedcabnjcbdkaaaL4Str
namespace Go.Proofs.Ytedcabnjcbdkaaa
open Go.RowKit Go.Shelf Go.Sort
open Go.Lib hiding intOf
variable {w : World} {B d : Nat} {es : List Le} {p : Int} {off : Bool} {mo : Option Nat}

set_option maxHeartbeats 2000000 in
theorem fits_has (h : Ld w B d es p off mo) {k : ByteArray} {v : Lv} (hk : (k, v) ∈ es) (s : ByteArray) :
    Calls Try.prog 35 #[.pointer (some ⟨d, 0, none⟩), .string k, .string s] w fun e w' => e = .returned (.bool (decide (v.all.size + s.size ≤ 1048576))) ∧ w' = w := by
  have c0 := h.c0
  have hl := h.look hk
  have F : Fw w B v := h.fw _ hk
  have hsm : v.all.size ≤ 1048576 := (h.small _ hk).2
  have m0 := F.c0
  obtain ⟨a, c, hbv, -⟩ := row_slice F.row
  rw [hbv] at m0
  clear h F
  have hw1 : IntKind.i64.wrap (1048576 - (v.all.size : Int)) = 1048576 - (v.all.size : Int) := by rw [IntKind.wrap_i64]; omega
  by_cases hf : v.all.size + s.size ≤ 1048576
  · have hd : decide (v.all.size + s.size ≤ 1048576) = true := by simpa using hf
    rw [hd]
    have hf' : (s.size : Int) ≤ 1048576 - (v.all.size : Int) := by omega
    clear hf hd
    generalize v.all.size = al at *
    go_enter Try.func35, Try.ntmps35
    go_wp2
    go_ret
    exact ⟨rfl, rfl⟩
  · have hd : decide (v.all.size + s.size ≤ 1048576) = false := by simpa using hf
    rw [hd]
    have hf' : ¬ (s.size : Int) ≤ 1048576 - (v.all.size : Int) := by omega
    clear hf hd
    generalize v.all.size = al at *
    go_enter Try.func35, Try.ntmps35
    go_wp2
    go_ret
    exact ⟨rfl, rfl⟩
set_option maxHeartbeats 2000000 in
theorem fits_no (h : Ld w B d es p off mo) {k : ByteArray} (hz : k.size ≤ 9223372036854775807) (hk : has es k = false) (s : ByteArray) :
    Calls Try.prog 35 #[.pointer (some ⟨d, 0, none⟩), .string k, .string s] w fun e w' => e = .returned (.bool (decide (es.length < 256 ∧ s.size ≤ 1048576))) ∧ w' = w := by
  have c0 := h.c0
  have hl := h.look_no hz hk
  have hn := h.len
  clear h
  generalize es.length = n at *
  by_cases h1 : n < 256
  · have h1' : (n : Int) < 256 := by omega
    by_cases h2 : s.size ≤ 1048576
    · have h2' : (s.size : Int) ≤ 1048576 := by omega
      have hd : decide (n < 256 ∧ s.size ≤ 1048576) = true := by simp [h1, h2]
      rw [hd]
      clear hd h1 h2
      go_enter Try.func35, Try.ntmps35
      go_wp2
      go_ret
      exact ⟨rfl, rfl⟩
    · have h2' : ¬ (s.size : Int) ≤ 1048576 := by omega
      have hd : decide (n < 256 ∧ s.size ≤ 1048576) = false := by simp [h2]
      rw [hd]
      clear hd h1 h2
      go_enter Try.func35, Try.ntmps35
      go_wp2
      go_ret
      exact ⟨rfl, rfl⟩
  · have h1' : ¬ (n : Int) < 256 := by omega
    have hd : decide (n < 256 ∧ s.size ≤ 1048576) = false := by simp [h1]
    rw [hd]
    clear hd h1
    go_enter Try.func35, Try.ntmps35
    go_wp2
    go_ret
    exact ⟨rfl, rfl⟩

/-- a new file -/
def nf (g : Nat) : Lv := { safe := ⟨#[]⟩, rest := ⟨#[]⟩, g := g, bv := .slice none 0 0 }
theorem nf_all (g : Nat) : (nf g).all = ⟨#[]⟩ := by
  show (⟨#[]⟩ : ByteArray) ++ (⟨#[]⟩ : ByteArray) = _
  exact ByteArray.append_empty
theorem nf_fw {w : World} {B g : Nat} (hh : w.heap[g]? = some (.cells #[.slice none 0 0, .int .i64 0] 65 (0, 0))) (hB : B ≤ g) : Fw w B (nf g) :=
  ⟨hh, by rw [nf_all]; exact World.ownsRow_nil _ _ _ _, hB⟩
/-- a file is put into the map -/
theorem Ld.store {w1 w3 : World} {mb : Nat} (h : Ld w1 B d es p off (some mb)) {k : ByteArray} {v : Lv} (hk : has es k = false) (hks : k.size ≤ 32) (hf : es.length < 256) (F : Fw w1 B v) (hv : v.all.size ≤ 1048576)
    (hnew : ∀ e ∈ es, Apart e.2 v) (ho : w3.ownsMap Try.prog 9 rdF mb (es.length + 1) ((DataW.map (ents dg es)).put (.string k.data.toList) (dg v))) (ht : w1.mapTurned w3 mb) : Ld w3 B d (put es k v) p off (some mb) ∧ Ch (fun x => x = mb) w1 w3 := by
  have C3 : Ch (fun x => x = mb) w1 w3 := Ch.of_grown ht.grown (fun x e _ => by cases e; rfl)
  have hkm : ∀ x, x = mb → ∀ cur t f, w1.heap[x]? ≠ some (.cells cur t f) := by
    rintro x rfl cur t f hx
    obtain ⟨a, c, hb, _⟩ := h.mp x rfl
    rw [hb] at hx; cases hx
  have hFw : ∀ u, Fw w1 B u → Fw w3 B u := fun u F => F.ch C3 (fun x hx e1 => by
    obtain ⟨cur, t, h1, _⟩ := F.kind hx
    exact hkm x e1 _ _ _ h1)
  refine ⟨⟨C3.obj h.hd (fun e => hkm d e _ _ _ h.hd), ?_, (fun e => by cases e), ?_, ?_, put_rise h.rise k v, h.low, ?_, ?_, h.pw⟩, C3⟩
  · intro mb' e
    cases e
    rw [ents_put dg h.rise] at ho
    have := owns_tight ho
    rw [ents_len] at this
    exact this
  · intro e he
    rcases (mem_put h.rise k v e).1 he with rfl | ⟨he, _⟩
    · exact hFw _ F
    · exact hFw _ (h.fw e he)
  · intro a ha b hb hne
    rcases (mem_put h.rise k v a).1 ha with rfl | ⟨ha, _⟩ <;> rcases (mem_put h.rise k v b).1 hb with rfl | ⟨hb, _⟩
    · exact absurd rfl hne
    · have := hnew b hb
      exact ⟨fun e => this.1 e.symm, fun x hx hv => this.2 x hv hx⟩
    · exact hnew a ha
    · exact h.apart a ha b hb hne
  · rw [put_len, hk]
    simp only [Bool.false_eq_true, if_false]
    omega
  · intro e he
    rcases (mem_put h.rise k v e).1 he with rfl | ⟨he, _⟩
    · exact ⟨hks, hv⟩
    · exact h.small e he
/-- a map is made -/
theorem Ld.made (h : Ld w B d es p off none) : Ld ((w.alloc (.map #[] 0)).setCell ⟨d, 0, none⟩ (.map (some w.heap.size))) B d es p off (some w.heap.size) := by
  have he := h.mn rfl
  subst he
  have h0 : (w.alloc (.map #[] 0)).heap[d]? = _ := (((Below.refl _ w).alloc (Nat.le_refl _) (.map #[] 0)).block d h.lt).trans h.hd
  have h1 := heap_setCell_same _ d 0 _ _ (.map (some w.heap.size)) h0
  refine ⟨h1, ?_, (fun e => by cases e), fun _ h => (by cases h), fun _ h => (by cases h), List.Pairwise.nil, ⟨h.low.1, fun mb e => ?_⟩, by simp, fun _ h => (by cases h), h.pw⟩
  · intro mb e
    cases e
    have hlt := h.lt
    exact (World.ownsMap_made (H := Unit) w Try.prog 9 rdF).setCell (a := ⟨d, 0, none⟩) (fun e => by have e : w.heap.size = d := e; omega) _
  · cases e
    have := h.low.1
    have := h.lt
    omega
theorem eqlSome (bm : Nat) (w : World) : (binOp .eql 58 (.map (some bm)) (.map none)).run Try.prog w = .ok (.bool false) w := by kernel_rfl
theorem eqlNil (w : World) : (binOp .eql 58 (.map none) (.map none)).run Try.prog w = .ok (.bool true) w := by kernel_rfl
/-- what open leaves -/
def Opened (w : World) (B d : Nat) (es : List Le) (p : Int) (off : Bool) (mo : Option Nat) (k : ByteArray) (g : Nat) (w' : World) : Prop :=
  w.heap.size ≤ g ∧ ∃ mo', Ld w' B d (put es k (nf g)) p off mo' ∧ Ch (fun x => x = d ∨ mo = some x) w w' ∧ ∀ x, mo' = some x → mo = some x ∨ w.heap.size ≤ x
set_option maxRecDepth 100000 in
set_option maxHeartbeats 2000000 in
theorem open_ok (h : Ld w B d es p off mo) {k : ByteArray} {v : Lv} (hk : (k, v) ∈ es) :
    Calls Try.prog 37 #[.pointer (some ⟨d, 0, none⟩), .string k] w fun e w' => e = .returned (.pointer (some ⟨v.g, 0, none⟩)) ∧ w' = w := by
  obtain ⟨mb, rfl⟩ : ∃ mb, mo = some mb := by
    cases mo with
    | none => rw [h.mn rfl] at hk; cases hk
    | some mb => exact ⟨mb, rfl⟩
  have c0 := h.c0
  have hl := h.look hk
  have hq := eqlSome mb
  clear h
  go_enter Try.func37, Try.ntmps37
  go_wp2
  go_ret
  exact ⟨rfl, rfl⟩
set_option maxRecDepth 100000 in
set_option maxHeartbeats 4000000 in
theorem open_new (h : Ld w B d es p off mo) {k : ByteArray} (hk : has es k = false) (hks : k.size ≤ 32) (hf : es.length < 256) (hB : B ≤ w.heap.size) :
    Calls Try.prog 37 #[.pointer (some ⟨d, 0, none⟩), .string k] w fun e w' => ∃ g, e = .returned (.pointer (some ⟨g, 0, none⟩)) ∧ Opened w B d es p off mo k g w' := by
  have hz : k.size ≤ 9223372036854775807 := by omega
  cases mo with
  | some mb =>
    have c0 := h.c0
    have hq := eqlSome mb
    have hl := h.look_no hz hk
    have L2 := h.below ((Below.refl _ w).alloc (Nat.le_refl _) (.cells #[.slice none 0 0, .int .i64 0] 65))
    have F2 := nf_fw (heap_alloc_new w (.cells #[.slice none 0 0, .int .i64 0] 65)) hB
    have c02 := L2.c0
    have HN : Hid (∀ e ∈ es, Apart e.2 (nf w.heap.size)) := fun e he => ⟨fun e1 => by
      have h2 : e.2.g = w.heap.size := e1
      have := (h.fw e he).lt
      omega, fun x _ h2 => by cases h2⟩
    have H2 : Hid (Ld (w.alloc (.cells #[.slice none 0 0, .int .i64 0] 65)) B d es p off (some mb) ∧ Fw (w.alloc (.cells #[.slice none 0 0, .int .i64 0] 65)) B (nf w.heap.size)) := ⟨L2, F2⟩
    clear h L2 F2
    go_enter Try.func37, Try.ntmps37
    go_wp2
    go_region_with (first | (go_at_call 46; refine (clone_any k _ (by omega)).mono ?_; rintro e w1 ⟨rfl, hb⟩; (have C1 : Ch (fun _ => False) (w.alloc (.cells #[.slice none 0 0, .int .i64 0] 65)) w1 := ⟨hb.os, hb.tape, hb.output, hb.size, fun k hk _ => hb.block k hk⟩); have L1 := H2.out.1.ch C1 (fun _ _ => id); have F1 := H2.out.2.ch C1 (fun _ _ => id); have c01 := L1.c0; obtain ⟨w3, hrun, ho3, ht3⟩ := (L1.mp mb rfl).store strKey Try.underlying58 (by unfold maxLen; omega) (keyIs hz) (rdF_ptr w.heap.size); have HE := L1.store hk hks hf F1 (by rw [nf_all]; decide) HN.out ho3 ht3; have HF : Hid (Opened w B d es p off (some mb) k w.heap.size w3) := ⟨Nat.le_refl _, some mb, HE.1, (((Ch.refl (fun x => x = d ∨ some mb = some x) w).alloc _).trans (C1.mono (fun _ _ e => e.elim))).trans (HE.2.mono (fun x _ e => .inr (by rw [e]))), fun x hx => .inl hx⟩; clear L1 F1 HE ho3 ht3 C1 hb))
    all_goals go_wp2
    all_goals go_ret
    all_goals exact ⟨_, rfl, HF.out⟩
  | none =>
    have c0 := h.c0
    have LA := h.below ((Below.refl _ w).alloc (Nat.le_refl _) (.map #[] 0))
    have cA := LA.c0
    have fA := LA.fro 0
    have L0 := h.made
    have c00 := L0.c0
    have hl := L0.look_no hz hk
    have hsz : ((w.alloc (.map #[] 0)).setCell ⟨d, 0, none⟩ (.map (some w.heap.size))).heap.size = w.heap.size + 1 := by simp
    have L2 := L0.below ((Below.refl _ _).alloc (Nat.le_refl _) (.cells #[.slice none 0 0, .int .i64 0] 65))
    have F2 := nf_fw (B := B) (heap_alloc_new ((w.alloc (.map #[] 0)).setCell ⟨d, 0, none⟩ (.map (some w.heap.size))) (.cells #[.slice none 0 0, .int .i64 0] 65)) (by rw [hsz]; omega)
    rw [hsz] at F2
    have c02 := L2.c0
    have he := h.mn rfl
    have C0 : Ch (fun x => x = d ∨ none = some x) w (((w.alloc (.map #[] 0)).setCell ⟨d, 0, none⟩ (.map (some w.heap.size))).alloc (.cells #[.slice none 0 0, .int .i64 0] 65)) := (((Ch.refl (fun x => x = d ∨ none = some x) w).alloc _).setCell ⟨d, 0, none⟩ _ (fun _ => .inl rfl)).alloc _
    have H2 : Hid (Ld (((w.alloc (.map #[] 0)).setCell ⟨d, 0, none⟩ (.map (some w.heap.size))).alloc (.cells #[.slice none 0 0, .int .i64 0] 65)) B d es p off (some w.heap.size) ∧ Fw (((w.alloc (.map #[] 0)).setCell ⟨d, 0, none⟩ (.map (some w.heap.size))).alloc (.cells #[.slice none 0 0, .int .i64 0] 65)) B (nf (w.heap.size + 1)) ∧ Ch (fun x => x = d ∨ none = some x) w (((w.alloc (.map #[] 0)).setCell ⟨d, 0, none⟩ (.map (some w.heap.size))).alloc (.cells #[.slice none 0 0, .int .i64 0] 65))) := ⟨L2, F2, C0⟩
    have hmm := @run_makeMap Try.prog
    have hq := eqlNil
    clear h L2 F2 L0 C0 LA
    go_enter Try.func37, Try.ntmps37
    go_wp2
    have HN : Hid (∀ e ∈ es, Apart e.2 (nf (w.heap.size + 1))) := fun e h1 => by rw [he] at h1; cases h1
    go_region_with (first | (go_at_call 46; refine (clone_any k _ (by omega)).mono ?_; rintro e w1 ⟨rfl, hb⟩; (have C1 : Ch (fun _ => False) (((w.alloc (.map #[] 0)).setCell ⟨d, 0, none⟩ (.map (some w.heap.size))).alloc (.cells #[.slice none 0 0, .int .i64 0] 65)) w1 := ⟨hb.os, hb.tape, hb.output, hb.size, fun k hk _ => hb.block k hk⟩); have L1 := H2.out.1.ch C1 (fun _ _ => id); have F1 := H2.out.2.1.ch C1 (fun _ _ => id); have c01 := L1.c0; obtain ⟨w3, hrun, ho3, ht3⟩ := (L1.mp w.heap.size rfl).store strKey Try.underlying58 (by unfold maxLen; omega) (keyIs hz) (rdF_ptr (w.heap.size + 1)); have HE := L1.store hk hks hf F1 (by rw [nf_all]; decide) HN.out ho3 ht3; have HF : Hid (Opened w B d es p off none k (w.heap.size + 1) w3) := ⟨Nat.le_succ _, some w.heap.size, HE.1, ⟨HE.2.os.trans (C1.os.trans H2.out.2.2.os), HE.2.tape.trans (C1.tape.trans H2.out.2.2.tape), HE.2.output.trans (C1.output.trans H2.out.2.2.output), Nat.le_trans H2.out.2.2.size (Nat.le_trans C1.size HE.2.size), fun x hx hX => ((HE.2.block x (Nat.lt_of_lt_of_le hx (Nat.le_trans H2.out.2.2.size C1.size)) (fun e => by omega)).trans (C1.block x (Nat.lt_of_lt_of_le hx H2.out.2.2.size) id)).trans (H2.out.2.2.block x hx hX)⟩, fun x hx => .inr (by cases hx; exact Nat.le_refl _)⟩; clear L1 F1 HE ho3 ht3 C1 hb))
    all_goals go_wp2
    all_goals go_ret
    all_goals exact ⟨_, rfl, HF.out⟩
end Go.Proofs.Ytedcabnjcbdkaaa

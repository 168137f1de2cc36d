/-
  Package expr: attempt, Parse.
-/
import Derived.Test.YtpbfdaijnndilaaGreatDoorX10Whl
import Derived.Defers
import Derived.Recover
import Derived.Laws.Pointers
import Derived.BigQuiet
namespace Go.Proofs.YtpbfdaijnndilaaGreatDoor.x10
open Go.RowKit Go.Shelf Go.Sort
open Go.Lib hiding intOf

theorem as_wrong (v : Value) (w : World) : Sem.run Tryz.prog (Instr.typeAssert (.iface 63 v) 20 63 false) w = .ok v w := by
  simp [Instr.typeAssert, go_sem]
set_option maxHeartbeats 1000000 in
set_option maxRecDepth 100000 in
theorem catE_no (x : Nat) (er ea y z : Int) (older : List PanicEntry) (w : World) (h0 : w.cell? ⟨x, 0, none⟩ = some (.int .i64 y)) (h1 : w.cell? ⟨x, 1, none⟩ = some (.int .i64 z)) (f0 : w.frozen? ⟨x, 0, none⟩ = false) (f1 : w.frozen? ⟨x, 1, none⟩ = false) :
    CallsD Tryz.prog 46 #[.pointer (some ⟨x, 0, none⟩)] (.panicking ({ v := .iface 63 (.agg #[.int .i64 er, .int .i64 ea]), recovered := false } :: older)) w fun e u' w' =>
      e = .returned (.tuple #[]) ∧ u' = .panicking ({ v := .iface 63 (.agg #[.int .i64 er, .int .i64 ea]), recovered := true } :: older) ∧ w' = (w.setCell ⟨x, 0, none⟩ (.int .i64 er)).setCell ⟨x, 1, none⟩ (.int .i64 ea) := by
  have hta := as_wrong
  refine callsD_of_wpS Tryz.func46 rfl fun c₀ cs hu => ?_
  apply wpS_seq
  apply wpS_region
  simp [wpOpsS, go_sem, recoverD, hu, Tryz.ntmps46, Exit.thenS]
  refine wpS_of_wp ?_
  go_wp2
  simp [bodyPostS, results, Tryz.results46]
set_option maxHeartbeats 1000000 in
set_option maxRecDepth 100000 in
theorem catE_ok (x : Nat) (w : World) :
    CallsD Tryz.prog 46 #[.pointer (some ⟨x, 0, none⟩)] .returning w fun e u' w' => e = .returned (.tuple #[]) ∧ u' = .returning ∧ w' = w := by
  refine callsD_of_wpS Tryz.func46 rfl fun c₀ cs hu => ?_
  apply wpS_seq
  apply wpS_region
  simp [wpOpsS, go_sem, recoverD, hu, Tryz.ntmps46, Exit.thenS]
  refine wpS_of_wp ?_
  go_wp2
  cases c₀
  simp_all [bodyPostS, results, Tryz.results46]

variable {s : List UInt8} {B b : Nat}
/-- how attempt of whole ends -/
def Ap (w : World) (B b : Nat) (pv : Value) (r : Ot (List P10)) (e : Ending) (w' : World) : Prop := match r with
  | .ok x => ∃ pv', e = .returned (.tuple #[pv', .agg #[.int .i64 0, .int .i64 0]]) ∧ w'.ownsRow B 68 6 pv' x.length (pcs x) ∧ Ch (Fx b pv) w w'
  | .no er a => e = .returned (.tuple #[.slice none 0 0, .agg #[.int .i64 er, .int .i64 a]]) ∧ Ch (Fx b pv) w w'
  | .out => True

set_option maxHeartbeats 2000000 in
set_option maxRecDepth 100000 in
theorem attE_any (hs : s.length ≤ 512) (n : Nat) (pv : Value) (w : World) (h : Rm w B b s st0 pv) (hg : Gx B w) (hno : whol s n ≠ .out) : Calls Tryz.prog 22 #[.func (.func 23) #[.pointer (some ⟨b, 0, none⟩)] #[]] w (Ap w B b pv (whol s n)) := by
  have hmf : ∀ (fn : Fn) (first cap : Array Value) (w : World), (Instr.makeFunc fn first cap).run Tryz.prog w = .ok (.func fn first cap) w := fun _ _ _ _ => rfl
  have hbl := h.ob.lt
  obtain ⟨W1, hW1⟩ : ∃ W1, w.alloc (.cells #[.int .i64 0, .int .i64 0] 63) = W1 := ⟨_, rfl⟩
  have hb1 : Below w.heap.size w W1 := by rw [← hW1]; exact (Below.refl _ w).alloc (Nat.le_refl _) _
  have hzz : W1.heap.size = w.heap.size + 1 := by rw [← hW1]; simp
  have ho1 : W1.heap[w.heap.size]? = some (.cells #[.int .i64 0, .int .i64 0] 63 (0, 0)) := by rw [← hW1]; show (w.heap.push _)[w.heap.size]? = _; exact Array.getElem?_push_size
  have R1 := h.below hb1
  have L1 := Lf.of_below b pv hb1
  have CW := whole_any hs n pv W1 R1 (h.gx2 hg L1) hno
  have HWE : Hid (_ = W1) := hW1
  have hne : ¬ Fx b pv w.heap.size := fun e => by
    rcases e with e | e
    · omega
    · obtain ⟨_, cur, h1⟩ := row_obj h.row e
      have := (Array.getElem?_eq_some_iff.1 h1).1
      omega
  have HCE : Hid (∀ w', Ch (Fx b pv) W1 w' → w'.cell? ⟨w.heap.size, 0, none⟩ = some (.int .i64 0) ∧ w'.cell? ⟨w.heap.size, 1, none⟩ = some (.int .i64 0) ∧ w'.frozen? ⟨w.heap.size, 0, none⟩ = false ∧ w'.frozen? ⟨w.heap.size, 1, none⟩ = false ∧ w.heap.size < w'.heap.size) := fun w' hc => by
    have h2 := (hc.block w.heap.size (by omega) hne).trans ho1
    have := hc.size
    exact ⟨by simp [World.cell?, h2], by simp [World.cell?, h2], by simp [World.frozen?, h2], by simp [World.frozen?, h2], by omega⟩
  have HCH : Hid (∀ w' v1 v2, Ch (Fx b pv) W1 w' → Ch (Fx b pv) w ((w'.setCell ⟨w.heap.size, 0, none⟩ v1).setCell ⟨w.heap.size, 1, none⟩ v2)) := fun w' v1 v2 hc => by
    have c1 : Ch (Fx b pv) w w' := joinG (L1.ch) hc (fun _ _ e => e)
    exact (c1.setCell _ _ (fun e => absurd e (Nat.lt_irrefl _))).setCell _ _ (fun e => absurd e (Nat.lt_irrefl _))
  have HNO : Hid (whol s n ≠ .out) := hno
  clear hb1 ho1 R1 L1 hW1 hg hno
  rcases q : whol s n with x | ⟨er, ea⟩ | _
  · have HQ : Hid (∀ e w', Wp W1 B b pv (whol s n) e w' → ∃ pv', e = .returned pv' ∧ Hid (w'.ownsRow B 68 6 pv' x.length (pcs x) ∧ Lf W1 b pv w' pv')) := fun e w' hR => by
      rw [q] at hR
      exact hR
    have HSL : Hid (∀ (w' : World) (pv' : Value), w'.ownsRow B 68 6 pv' x.length (pcs x) → ∃ pa pl pc, pv' = Value.slice pa pl pc) := fun w' pv' hr => by
      obtain ⟨pa, pcap, hpv, -⟩ := row_slice hr
      exact ⟨pa, _, pcap, hpv⟩
    go_enter_defers Tryz.func22, Tryz.ntmps22
    go_wp2_with (go_at_call 23; rw [HWE.out]; refine CW.mono ?_; rintro e w2 hR; obtain ⟨pv2, he, HX⟩ := HQ.out e w2 hR; subst he; obtain ⟨pa, pl, pc, hpv⟩ := HSL.out w2 pv2 HX.out.1; subst hpv; obtain ⟨d0, d1, f0, f1, hl2⟩ := HCE.out w2 HX.out.2.ch; clear hR CW)
    refine leaves_cons (f := 46) (args := #[.pointer (some ⟨w.heap.size, 0, none⟩)]) (by simp) (by simp [go_sem]) ?_
    refine (catE_ok _ _).mono ?_
    rintro e u' w'' ⟨rfl, rfl, rfl⟩
    simp [Leaves, settle, results, Tryz.results22, go_sem, d0, d1]
    have c2 : Ch (fun k => k = w.heap.size) w2 ((w2.setCell ⟨w.heap.size, 0, none⟩ (.int .i64 0)).setCell ⟨w.heap.size, 1, none⟩ (.int .i64 0)) 
      := ((Ch.refl (fun k => k = w.heap.size) w2).setCell ⟨w.heap.size, 0, none⟩ (.int .i64 0) (fun _ => rfl)).setCell ⟨w.heap.size, 1, none⟩ (.int .i64 0) (fun _ => rfl)
    exact ⟨_, rfl, c2.row HX.out.1 (fun k hk e => by
      rcases HX.out.2.nw k hk with e2 | e2
      · exact hne (.inr (e ▸ e2))
      · omega), HCH.out _ _ _ HX.out.2.ch⟩
  · have HQ : Hid (∀ e w', Wp W1 B b pv (whol s n) e w' → e = .panicked (wrg er ea) ∧ Hid (Ch (Fx b pv) W1 w')) := fun e w' hR => by
      rw [q] at hR
      exact hR
    clear q
    go_enter_defers Tryz.func22, Tryz.ntmps22
    go_wp2_with (go_at_call 23; rw [HWE.out]; refine CW.mono ?_; rintro e w2 hR; obtain ⟨he, HX⟩ := HQ.out e w2 hR; subst he; obtain ⟨d0, d1, f0, f1, hl2⟩ := HCE.out w2 HX.out; clear hR CW)
    refine leaves_cons (f := 46) (args := #[.pointer (some ⟨w.heap.size, 0, none⟩)]) (by simp) (by simp [go_sem]) ?_
    refine (catE_no w.heap.size er ea 0 0 [] w2 d0 d1 f0 f1).mono ?_
    rintro e u' w'' ⟨rfl, rfl, rfl⟩
    simp [Leaves, settle, results, Tryz.results22, go_sem, d0, d1]
    exact ⟨rfl, HCH.out _ _ _ HX.out⟩
  · exact absurd q HNO.out
end Go.Proofs.YtpbfdaijnndilaaGreatDoor.x10
namespace Go.Proofs.YtpbfdaijnndilaaGreatDoor.x10
open Go.RowKit Go.Shelf Go.Sort
open Go.Lib hiding intOf

variable {s : List UInt8}
/-- a slice of parts that lies from block B on -/
def Px (w : World) (B : Nat) (v : Value) (l : List P10) : Prop := w.ownsRow B 68 6 v l.length (pcs l)
theorem Px.below {w w' : World} {B : Nat} {v : Value} {l : List P10} (h : Px w B v l) (hb : Below w.heap.size w w') : Px w' B v l := (Ch.of_below (X := fun _ => False) hb).row h (fun _ _ e => e)
/-- how Parse ends -/
def PrP (w : World) (r : List P10 × Int × Int) (e : Ending) (w' : World) : Prop := ∃ v, e = .returned (.tuple #[v, .int .i64 r.2.1, .int .i64 r.2.2]) ∧ Px w' w.heap.size v r.1 ∧ Below w.heap.size w w'
theorem nil_row (w : World) (B : Nat) : Px w B (.slice none 0 0) [] := ⟨rfl, .inl ⟨rfl, rfl⟩⟩
theorem Gx.up {B B' : Nat} {w : World} (h : Gx B w) (hB : B ≤ B') : Gx B' w := fun W hW => h W (hW.mono hB)
theorem below_of_ch {w w' : World} {X : Nat → Prop} {N : Nat} (h : Ch X w w') (hN : N ≤ w.heap.size) (hX : ∀ k, k < N → ¬ X k) : Below N w w' := ⟨h.os, h.tape, h.output, h.size, fun k hk => h.block k (by omega) (hX k hk)⟩

set_option maxHeartbeats 2000000 in
set_option maxRecDepth 100000 in
theorem Parse_any (n : Nat) {B : Nat} (w : World) (hg : Gx B w) (hB : B ≤ w.heap.size) {r : List P10 × Int × Int} (hr : prs n s = some r) : Calls Tryz.prog 10 #[.string (S s)] w (PrP w r) := by
  have hmf : ∀ (fn : Fn) (first cap : Array Value) (w : World), (Instr.makeFunc fn first cap).run Tryz.prog w = .ok (.func fn first cap) w := fun _ _ _ _ => rfl
  have hz := S_size s
  by_cases hs : 512 < s.length
  · have HR : Hid (r = ([], 13, 0)) := by
      show _ = _
      unfold prs at hr
      rw [if_pos hs] at hr
      cases hr; rfl
    have hgt : (512 : Int) < (s.length : Int) := by omega
    clear hr hg hs
    go_enter Tryz.func10, Tryz.ntmps10
    go_wp2
    go_ret3
    rw [HR.out]
    exact ⟨_, rfl, nil_row _ _, Below.refl _ _⟩
  · have hgt : ¬ (512 : Int) < (s.length : Int) := by omega
    have hs' : s.length ≤ 512 := by omega
    unfold prs at hr
    rw [if_neg hs] at hr
    obtain ⟨W0, hW0⟩ : ∃ W0, w.alloc (.cells (rcs s st0 (.slice none 0 0)) 61) = W0 := ⟨_, rfl⟩
    have hb0 : Below w.heap.size w W0 := by rw [← hW0]; exact (Below.refl _ w).alloc (Nat.le_refl _) _
    have ho0 : Ro W0 w.heap.size (rcs s st0 (.slice none 0 0)) := by rw [← hW0]; show (w.heap.push _)[w.heap.size]? = _; exact Array.getElem?_push_size
    have hzz : W0.heap.size = w.heap.size + 1 := by rw [← hW0]; simp
    have R0 : Rm W0 w.heap.size w.heap.size s st0 (.slice none 0 0) := ⟨ho0, nil_row _ _, by simp [Value.ownBlock], Nat.le_refl _⟩
    have hno : whol s n ≠ .out := fun e => by rw [e] at hr; cases hr
    have CA := attE_any hs' n (.slice none 0 0) W0 R0 ((hg.up hB).below hb0) hno
    have HWE : Hid (w.alloc (.cells #[.string (S s), .int .i64 0, .int .i64 0, .string ⟨#[]⟩, .int .i64 0, .int .i64 0, .string ⟨#[]⟩, .int .i64 0, .int .i64 0, .slice none 0 0] 61) = W0) := hW0
    have HBL : Hid (∀ w', Ch (Fx w.heap.size (.slice none 0 0)) W0 w' → Below w.heap.size w w') := fun w' hc => hb0.trans (below_of_ch hc (by omega) (fun k hk e => by
      rcases e with e | e
      · omega
      · simp [Value.ownBlock] at e))
    clear hW0 hb0 ho0 R0 hg hs hB
    rcases q : whol s n with x | ⟨er, ea⟩ | _
    · have HR : Hid (r = (x, 0, 0)) := by
        show _ = _
        rw [q] at hr
        cases hr; rfl
      have HQ : Hid (∀ e w', Ap W0 w.heap.size w.heap.size (.slice none 0 0) (whol s n) e w' → ∃ pa pl pc, e = .returned (.tuple #[.slice pa pl pc, .agg #[.int .i64 0, .int .i64 0]]) ∧ Hid (Px w' w.heap.size (.slice pa pl pc) x ∧ Below w.heap.size w w')) := fun e w' hR => by
        rw [q] at hR
        obtain ⟨pv, rfl, h1, h2⟩ := hR
        obtain ⟨pa, pcap, rfl, -⟩ := row_slice h1
        exact ⟨pa, _, pcap, rfl, h1, HBL.out _ h2⟩
      clear q hr hno
      go_enter Tryz.func10, Tryz.ntmps10
      go_wp2_with (go_at_call 22; rw [HWE.out]; refine CA.mono ?_; rintro e w2 hR; obtain ⟨pa, pl, pc, he, HX⟩ := HQ.out e w2 hR; subst he; clear hR CA)
      go_quiet (fail)
      go_wp2
      go_ret3
      rw [HR.out]
      have hB2 : ∀ k : Nat, Below w2.heap.size w2 ((w2.alloc (.cells #[.int .i64 0, .int .i64 0] 63)).drewN k) := fun k => below_drewN ((Below.refl _ w2).alloc (Nat.le_refl _) _) k
      exact ⟨_, rfl, HX.out.1.below (hB2 _), HX.out.2.trans ((hB2 _).mono HX.out.2.size)⟩
    · have HR : Hid (r = ([], er, ea)) := by
        show _ = _
        rw [q] at hr
        cases hr; rfl
      have HQ : Hid (∀ e w', Ap W0 w.heap.size w.heap.size (.slice none 0 0) (whol s n) e w' → e = .returned (.tuple #[.slice none 0 0, .agg #[.int .i64 er, .int .i64 ea]]) ∧ Hid (Below w.heap.size w w')) := fun e w' hR => by
        rw [q] at hR
        exact ⟨hR.1, HBL.out _ hR.2⟩
      clear q hr hno
      go_enter Tryz.func10, Tryz.ntmps10
      go_wp2_with (go_at_call 22; rw [HWE.out]; refine CA.mono ?_; rintro e w2 hR; obtain ⟨he, HX⟩ := HQ.out e w2 hR; subst he; clear hR CA)
      go_quiet (fail)
      go_wp2
      go_ret3
      rw [HR.out]
      refine ⟨_, rfl, nil_row _ _, HX.out.trans (Below.mono (B := w2.heap.size) ?_ HX.out.size)⟩
      exact below_drewN ((Below.refl _ w2).alloc (Nat.le_refl _) _) _
    · exact absurd q hno
end Go.Proofs.YtpbfdaijnndilaaGreatDoor.x10

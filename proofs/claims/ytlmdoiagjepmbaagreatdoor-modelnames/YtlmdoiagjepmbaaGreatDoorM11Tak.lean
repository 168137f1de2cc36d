/-
  Package model: Take.
-/
import Derived.Test.YtlmdoiagjepmbaaGreatDoorM11Tk2
namespace Go.Proofs.YtlmdoiagjepmbaaGreatDoor.m11
open Go.Proofs.YtlmdoiagjepmbaaGreatDoor.x10
open Go.RowKit Go.Shelf Go.Sort
open Go.Lib hiding intOf

def tProc (s : Ts) : Pc × Ts :=
  let a := tTxt 32 s; let b := tMany 40 tNode a.2; let c := tMany 80 tFlow b.2
  (⟨a.1, b.1, c.1⟩, c.2)
/-- while a process is taken -/
structure NP (w w1 : World) (tb rb : Nat) (s : Ts) (cs : Array Value) : Prop where
  tk : Tk w1 tb rb s
  bo : Bo 25 w1 (w.heap.size + 1) cs
  br : Bo 25 w1 w.heap.size #[.string ⟨#[]⟩, .slice none 0 0, .slice none 0 0]
  ch : Ch (X2 tb rb) w w1
  l1 : tb < w.heap.size
  l2 : rb < w.heap.size
theorem nP_new {w : World} {tb rb : Nat} {s : Ts} (h : Tk w tb rb s) : NP w ((w.alloc (.cells #[.string ⟨#[]⟩, .slice none 0 0, .slice none 0 0] 25)).alloc (.cells #[.string ⟨#[]⟩, .slice none 0 0, .slice none 0 0] 25)) tb rb s #[.string ⟨#[]⟩, .slice none 0 0, .slice none 0 0] := by
  have hb0 : Below w.heap.size w ((w.alloc (.cells #[.string ⟨#[]⟩, .slice none 0 0, .slice none 0 0] 25)).alloc (.cells #[.string ⟨#[]⟩, .slice none 0 0, .slice none 0 0] 25)) := ((Below.refl _ w).alloc (Nat.le_refl _) _).alloc (by simp) _
  refine ⟨h.below hb0, ?_, ?_, Ch.of_below hb0, h.lt, h.r.lt⟩
  · have : ((w.alloc (.cells #[.string ⟨#[]⟩, .slice none 0 0, .slice none 0 0] 25)).alloc (.cells #[.string ⟨#[]⟩, .slice none 0 0, .slice none 0 0] 25)).heap[(w.alloc (.cells #[.string ⟨#[]⟩, .slice none 0 0, .slice none 0 0] 25)).heap.size]? = _ := Array.getElem?_push_size
    rw [World.size_alloc] at this
    exact this
  · have hx : (w.alloc (.cells #[.string ⟨#[]⟩, .slice none 0 0, .slice none 0 0] 25)).heap[w.heap.size]? = _ := Array.getElem?_push_size
    exact (((Below.refl _ (w.alloc (.cells #[.string ⟨#[]⟩, .slice none 0 0, .slice none 0 0] 25))).alloc (Nat.le_refl _) (.cells #[.string ⟨#[]⟩, .slice none 0 0, .slice none 0 0] 25)).block w.heap.size (by simp)).trans hx
theorem NP.call {w w1 w2 : World} {tb rb : Nat} {s s2 : Ts} {cs : Array Value} (h : NP w w1 tb rb s cs) (hc : Ch (X2 tb rb) w1 w2) (ht : Tk w2 tb rb s2) : NP w w2 tb rb s2 cs := by
  have a1 := h.l1
  have a2 := h.l2
  refine ⟨ht, h.bo.ch hc (fun e => ?_), h.br.ch hc (fun e => ?_), h.ch.trans hc, h.l1, h.l2⟩
  · rcases e with e | e <;> omega
  · rcases e with e | e <;> omega
theorem NP.next {w w1 w2 : World} {tb rb : Nat} {s s2 : Ts} {cs : Array Value} (h : NP w w1 tb rb s cs) (i : Nat) (v : Value) (hc : Ch (X2 tb rb) (w1.setCell ⟨w.heap.size + 1, i, none⟩ v) w2) (ht : Tk w2 tb rb s2) : NP w w2 tb rb s2 (cs.setIfInBounds i v) := by
  have a1 := h.l1
  have a2 := h.l2
  refine ⟨ht, (h.bo.set i v).ch hc (fun e => ?_), (h.br.far (by omega) i v).ch hc (fun e => ?_), (h.ch.setCell _ _ (fun e => ?_)).trans hc, h.l1, h.l2⟩
  · rcases e with e | e <;> omega
  · rcases e with e | e <;> omega
  · simp only at e; omega
/-- a row from block B on is kept by what changes blocks below B -/
theorem row_far {w : World} {B : Nat} {t : TypeId} {sz : Nat} {v : Value} {n : Nat} {xs : List Value} (h : w.ownsRow B t sz v n xs) {b : Nat} (hb : b < B) (i : Nat) (u : Value) : (w.setCell ⟨b, i, none⟩ u).ownsRow B t sz v n xs :=
  ((Ch.refl (fun k => k = b) w).setCell ⟨b, i, none⟩ u (fun _ => rfl)).row h (fun k hk e => by have := (h.lt k hk).1; omega)
theorem row_x2 {w w' : World} {B tb rb : Nat} {t : TypeId} {sz : Nat} {v : Value} {n : Nat} {xs : List Value} (h : w.ownsRow B t sz v n xs) (hc : Ch (X2 tb rb) w w') (h1 : tb < B) (h2 : rb < B) : w'.ownsRow B t sz v n xs :=
  hc.row h (fun k hk e => by have := (h.lt k hk).1; rcases e with e | e <;> omega)

set_option maxRecDepth 100000 in
set_option maxHeartbeats 2000000 in
theorem process_any {w : World} {tb rb : Nat} {s : Ts} (h : Tk w tb rb s) : Calls Tryz.prog 23 #[.pointer (some ⟨tb, 0, none⟩)] w fun e w' => ∃ na nc fa fc, e = .returned (.agg #[.string (S (tProc s).1.id), .slice na (tProc s).1.nodes.length nc, .slice fa (tProc s).1.flows.length fc]) ∧ Ns w' (.slice na (tProc s).1.nodes.length nc) (tProc s).1.nodes ∧ Fs w' (.slice fa (tProc s).1.flows.length fc) (tProc s).1.flows ∧ Tk w' tb rb (tProc s).2 ∧ Ch (X2 tb rb) w w' ∧ ((∀ k, (Value.slice na (tProc s).1.nodes.length nc).ownBlock = some k → w.heap.size ≤ k) ∧ ∀ k, (Value.slice fa (tProc s).1.flows.length fc).ownBlock = some k → w.heap.size ≤ k) := by
  have hmf : ∀ (fn : Fn) (first cap : Array Value) (w : World), (Instr.makeFunc fn first cap).run Tryz.prog w = .ok (.func fn first cap) w := fun _ _ _ _ => rfl
  obtain ⟨v0, s1, h0⟩ : ∃ v t, tTxt 32 s = (v, t) := ⟨_, _, rfl⟩
  obtain ⟨v1, s2, h1⟩ : ∃ v t, tMany 40 tNode s1 = (v, t) := ⟨_, _, rfl⟩
  obtain ⟨v2, s3, h2⟩ : ∃ v t, tMany 80 tFlow s2 = (v, t) := ⟨_, _, rfl⟩
  have HE : Hid (tProc s = (⟨v0, v1, v2⟩, s3)) := by show _ = _; unfold tProc; simp only [h0, h1, h2]
  have C0 := ttxt_any (nP_new h).tk 32 (by omega)
  rw [h0] at C0
  have HC1 : Hid (∀ W, Tk W tb rb s1 → Calls Tryz.prog 46 #[.pointer (some ⟨tb, 0, none⟩), .int .u64 40, .func (.func 47) #[.pointer (some ⟨tb, 0, none⟩)] #[]] W fun e w' => ∃ a c, e = .returned (.slice a v1.length c) ∧ w'.ownsRow W.heap.size 32 7 (.slice a v1.length c) v1.length (ncs v1) ∧ Tk w' tb rb s2 ∧ Ch (X2 tb rb) W w') := fun W h => by
    have := takeListNode h 40 (by omega)
    rwa [h1] at this
  have HC2 : Hid (∀ W, Tk W tb rb s2 → Calls Tryz.prog 48 #[.pointer (some ⟨tb, 0, none⟩), .int .u64 80, .func (.func 49) #[.pointer (some ⟨tb, 0, none⟩)] #[]] W fun e w' => ∃ a c, e = .returned (.slice a v2.length c) ∧ w'.ownsRow W.heap.size 37 3 (.slice a v2.length c) v2.length (fcs v2) ∧ Tk w' tb rb s3 ∧ Ch (X2 tb rb) W w') := fun W h => by
    have := takeListFlow h 80 (by omega)
    rwa [h2] at this
  have N0 : Hid (NP w ((w.alloc (.cells #[.string ⟨#[]⟩, .slice none 0 0, .slice none 0 0] 25)).alloc (.cells #[.string ⟨#[]⟩, .slice none 0 0, .slice none 0 0] 25)) tb rb s #[.string ⟨#[]⟩, .slice none 0 0, .slice none 0 0]) := nP_new h
  have t0 := N0.out.tk.c0
  have k1 := h.lt
  have k2 := h.r.lt
  have q1 : tb ≠ w.heap.size + 1 := by omega
  have q2 : rb ≠ w.heap.size + 1 := by omega
  have q3 : ¬ tb = w.heap.size + 1 := q1
  have q4 : ¬ w.heap.size = w.heap.size + 1 := by omega
  have q5 : ¬ w.heap.size + 1 = w.heap.size := by omega
  have q6 : ¬ w.heap.size + 1 = tb := by omega
  have q7 : ¬ w.heap.size = tb := by omega
  have p1 : tb ≠ w.heap.size := by omega
  have p2 : rb ≠ w.heap.size := by omega
  rw [HE.out]
  simp only
  clear h HE h0 h1 h2
  go_enter Tryz.func23, Tryz.ntmps23
  go_wp2_with (first
    | (go_at_call 45; refine C0.mono ?_; rintro e w1 ⟨rfl, t, c⟩; (have N1 : Hid (NP w w1 tb rb s1 #[.string ⟨#[]⟩, .slice none 0 0, .slice none 0 0]) := N0.out.call c t); clear t c C0 N0; (have f0 := N1.out.bo.f 0); (have g0 : w1.cell? ⟨w.heap.size + 1, 0, none⟩ = some (.string ⟨#[]⟩) := N1.out.bo.c 0); (have C1 := HC1.out _ (N1.out.tk.far q1 q2 0 (.string (S v0)))); clear HC1)
    | (go_at_call 46; refine C1.mono ?_; rintro e w2 ⟨na, nc, rfl, r, t, c⟩; (have N2 : Hid (NP w w2 tb rb s2 #[.string (S v0), .slice none 0 0, .slice none 0 0]) := N1.out.next 0 (.string (S v0)) c t); (have R2 : Hid (w2.ownsRow w1.heap.size 32 7 (.slice na v1.length nc) v1.length (ncs v1) ∧ w.heap.size + 1 < w1.heap.size) := ⟨by simpa using r, N1.out.bo.lt⟩); clear t c r C1 N1; (have f1 := N2.out.bo.f 1); (have g1 : w2.cell? ⟨w.heap.size + 1, 1, none⟩ = some (.slice none 0 0) := N2.out.bo.c 1); (have C2 := HC2.out _ (N2.out.tk.far q1 q2 1 (.slice na v1.length nc))); clear HC2)
    | (go_at_call 48; refine C2.mono ?_; rintro e w3 ⟨fa, fc, rfl, r, t, c⟩; (have R3 : Hid (w3.ownsRow w1.heap.size 32 7 (.slice na v1.length nc) v1.length (ncs v1) ∧ w3.ownsRow w2.heap.size 37 3 (.slice fa v2.length fc) v2.length (fcs v2) ∧ w.heap.size + 1 < w1.heap.size ∧ w.heap.size + 1 < w2.heap.size) := ⟨row_x2 (row_far R2.out.1 R2.out.2 1 _) c (by have := R2.out.2; omega) (by have := R2.out.2; omega), by simpa using r, R2.out.2, N2.out.bo.lt⟩); (have N3 : Hid (NP w w3 tb rb s3 #[.string (S v0), .slice na v1.length nc, .slice none 0 0]) := N2.out.next 1 (.slice na v1.length nc) c t); clear t c r C2 N2 R2; (have f2 := N3.out.bo.f 2); (have g0 : w3.cell? ⟨w.heap.size + 1, 0, none⟩ = some (.string (S v0)) := N3.out.bo.c 0); (have g1 : w3.cell? ⟨w.heap.size + 1, 1, none⟩ = some (.slice na v1.length nc) := N3.out.bo.c 1); (have g2 : w3.cell? ⟨w.heap.size + 1, 2, none⟩ = some (.slice none 0 0) := N3.out.bo.c 2); (have y0 : w3.cell? ⟨w.heap.size, 0, none⟩ = some (.string ⟨#[]⟩) := N3.out.br.c 0); (have y1 : w3.cell? ⟨w.heap.size, 1, none⟩ = some (.slice none 0 0) := N3.out.br.c 1); (have y2 : w3.cell? ⟨w.heap.size, 2, none⟩ = some (.slice none 0 0) := N3.out.br.c 2); (have z0 := N3.out.br.f 0); (have z1 := N3.out.br.f 1); (have z2 := N3.out.br.f 2)))
  have b1 : w.heap.size < w1.heap.size := by have := R3.out.2.2.1; omega
  have b2 : w.heap.size < w2.heap.size := by have := R3.out.2.2.2; omega
  exact bodyPost_ret (v := .agg #[.string (S v0), .slice na v1.length nc, .slice fa v2.length fc]) (by simp [results, Tryz.results23, go_sem, y0, y1, y2]) rfl ⟨na, nc, fa, fc, rfl, row_Node (row_far (row_far (row_far (row_far R3.out.1 R3.out.2.2.1 2 _) b1 0 _) b1 1 _) b1 2 _), row_Flow (row_far (row_far (row_far (row_far R3.out.2.1 R3.out.2.2.2 2 _) b2 0 _) b2 1 _) b2 2 _), (((N3.out.tk.far q1 q2 2 _).far p1 p2 0 _).far p1 p2 1 _).far p1 p2 2 _, ch_far (ch_far (ch_far (ch_far N3.out.ch (Nat.le_succ _) 2 _) (Nat.le_refl _) 0 _) (Nat.le_refl _) 1 _) (Nat.le_refl _) 2 _, fun k hk => Nat.le_trans (Nat.le_of_lt b1) (R3.out.1.lt k hk).1, fun k hk => Nat.le_trans (Nat.le_of_lt b2) (R3.out.2.1.lt k hk).1⟩
/-- why what was taken is none -/
def tEr (s : Ts) : Nat := if s.t ≠ 0 then s.t else endOf s.l s.e

set_option maxHeartbeats 400000 in
theorem end_any {w : World} {tb rb : Nat} {s : Ts} (h : Tk w tb rb s) : Calls Tryz.prog 24 #[.pointer (some ⟨tb, 0, none⟩)] w fun e w' => e = .returned (.int .i64 (tEr s : Int)) ∧ w' = w := by
  have c0 := h.c0
  have c1 := h.c1
  have CE := End_any h.r
  unfold tEr
  by_cases h0 : s.t = 0
  · rw [if_neg (by simp [h0])]
    rw [h0] at c1
    clear h
    generalize endOf s.l s.e = r at *
    go_enter Tryz.func24, Tryz.ntmps24
    go_wp2_with (go_at_call 50; refine CE.mono ?_; rintro e w1 ⟨rfl, hw1⟩; rw [hw1]; clear hw1 w1 CE)
    go_ret
    exact ⟨rfl, rfl⟩
  · rw [if_pos h0]
    have hne : ((s.t : Int) != 0) = true := by rw [bne_iff_ne]; omega
    have hne2 : ¬ (s.t : Int) = 0 := by omega
    have hne3 : ((s.t : Int) == 0) = false := by rw [beq_eq_false_iff_ne]; exact hne2
    clear h h0
    generalize (s.t : Int) = q at *
    go_enter Tryz.func24, Tryz.ntmps24
    go_wp2
    go_ret
    exact ⟨rfl, rfl⟩
def p0 : Pc := ⟨[], [], []⟩
/-- what Take comes to -/
def tkP (l : List UInt8) : Pc × Int := if 8192 < l.length then (p0, 13) else if tEr (tProc ⟨l, 0, 0⟩).2 ≠ 0 then (p0, (tEr (tProc ⟨l, 0, 0⟩).2 : Int)) else ((tProc ⟨l, 0, 0⟩).1, 0)

set_option maxHeartbeats 400000 in
theorem read_any (l : List UInt8) (w : World) : Calls Tryz.prog 22 #[.string (S l)] w fun r w' => r = .returned (.pointer (some ⟨w.heap.size, 0, none⟩)) ∧ Rd w' w.heap.size l 0 ∧ Below w.heap.size w w' ∧ w'.heap.size = w.heap.size + 1 := by
  go_enter Tryz.func22, Tryz.ntmps22
  go_wp2
  go_ret
  exact ⟨rfl, ⟨by go_simp, by go_simp, by go_simp, by go_simp, by simp⟩, (Below.refl _ _).alloc (Nat.le_refl _) _, by simp⟩
end Go.Proofs.YtlmdoiagjepmbaaGreatDoor.m11

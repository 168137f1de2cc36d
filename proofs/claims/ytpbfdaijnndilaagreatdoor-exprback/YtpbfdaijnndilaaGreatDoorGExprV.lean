/-
  Package expr: attempt of a value; Eval.
-/
import Derived.Test.YtpbfdaijnndilaaGreatDoorGExprP
import Derived.Test.YtpbfdaijnndilaaGreatDoorGExprW
import Derived.Test.YtpbfdaijnndilaaGreatDoorGValR
import Derived.Deep.CutRange
namespace Go.Proofs.YtpbfdaijnndilaaGreatDoor.x10
open Go.RowKit Go.Shelf Go.Sort
open Go.Lib hiding intOf

set_option maxHeartbeats 1000000 in
set_option maxRecDepth 100000 in
theorem catV_no (x : Nat) (er ea y z : Int) (older : List PanicEntry) (w : World) (h0 : w.cell? ⟨x, 0, none⟩ = some (.int .i64 y)) (h1 : w.cell? ⟨x, 1, none⟩ = some (.int .i64 z)) (f0 : w.frozen? ⟨x, 0, none⟩ = false) (f1 : w.frozen? ⟨x, 1, none⟩ = false) :
    CallsD Tryz.prog 87 #[.pointer (some ⟨x, 0, none⟩)] (.panicking ({ v := .iface 63 (.agg #[.int .i64 er, .int .i64 ea]), recovered := false } :: older)) w fun e u' w' =>
      e = .returned (.tuple #[]) ∧ u' = .panicking ({ v := .iface 63 (.agg #[.int .i64 er, .int .i64 ea]), recovered := true } :: older) ∧ w' = (w.setCell ⟨x, 0, none⟩ (.int .i64 er)).setCell ⟨x, 1, none⟩ (.int .i64 ea) := by
  have hta := as_wrong
  refine callsD_of_wpS Tryz.func87 rfl fun c₀ cs hu => ?_
  apply wpS_seq
  apply wpS_region
  simp [wpOpsS, go_sem, recoverD, hu, Tryz.ntmps87, Exit.thenS]
  refine wpS_of_wp ?_
  go_wp2
  simp [bodyPostS, results, Tryz.results87]
set_option maxHeartbeats 1000000 in
set_option maxRecDepth 100000 in
theorem catV_ok (x : Nat) (w : World) :
    CallsD Tryz.prog 87 #[.pointer (some ⟨x, 0, none⟩)] .returning w fun e u' w' => e = .returned (.tuple #[]) ∧ u' = .returning ∧ w' = w := by
  refine callsD_of_wpS Tryz.func87 rfl fun c₀ cs hu => ?_
  apply wpS_seq
  apply wpS_region
  simp [wpOpsS, go_sem, recoverD, hu, Tryz.ntmps87, Exit.thenS]
  refine wpS_of_wp ?_
  go_wp2
  cases c₀
  simp_all [bodyPostS, results, Tryz.results87]

set_option maxHeartbeats 2000000 in
set_option maxRecDepth 100000 in
theorem evl1_any {w : World} {b6 b2 rb : Nat} {xv vv : Value} {l : List P10} {vs : List Vr} (h : Rk w rb xv vv l vs) (h6 : w.cell? ⟨b6, 0, none⟩ = some (.pointer (some ⟨rb, 0, none⟩))) (h2 : w.cell? ⟨b2, 0, none⟩ = some xv) (hb6 : b6 < w.heap.size) (hb2 : b2 < w.heap.size) (hl : 1 ≤ l.length ∧ l.length ≤ 100) {r : Ot V9} (CP : ∀ W, Rk W rb xv vv l vs → Calls Tryz.prog 45 #[.pointer (some ⟨rb, 0, none⟩), .int .i64 ((l.length - 1 : Nat) : Int)] W (Vp W r)) (hr : r ≠ .out) : Calls Tryz.prog 44 #[.pointer (some ⟨b6, 0, none⟩), .pointer (some ⟨b2, 0, none⟩)] w (Vp w r) := by
  obtain ⟨W1, hW1⟩ : ∃ W1, w.alloc (.cells #[.int .i64 0, .int .i64 0, .string ⟨#[]⟩] 48) = W1 := ⟨_, rfl⟩
  have hb1 : Below w.heap.size w W1 := by rw [← hW1]; exact (Below.refl _ w).alloc (Nat.le_refl _) _
  have ho1 : W1.heap[w.heap.size]? = some (.cells #[.int .i64 0, .int .i64 0, .string ⟨#[]⟩] 48 (0, 0)) := by rw [← hW1]; exact heap_alloc_new w _
  have hs1 : W1.heap.size = w.heap.size + 1 := by rw [← hW1]; simp
  have q6 := (hb1.cell (p := ⟨b6, 0, none⟩) hb6).trans h6
  have q2 := (hb1.cell (p := ⟨b2, 0, none⟩) hb2).trans h2
  have CP1 := CP W1 (h.up hb1)
  obtain ⟨va, vcap, hxv, -⟩ := h.es
  subst hxv
  have HW : Hid (_ = W1) := hW1
  have HB : Hid (∀ W, Below W1.heap.size W1 W → (W.cell? ⟨w.heap.size, 0, none⟩ = some (.int .i64 0) ∧ W.cell? ⟨w.heap.size, 1, none⟩ = some (.int .i64 0) ∧ W.cell? ⟨w.heap.size, 2, none⟩ = some (.string ⟨#[]⟩)) ∧ (W.frozen? ⟨w.heap.size, 0, none⟩ = false ∧ W.frozen? ⟨w.heap.size, 1, none⟩ = false ∧ W.frozen? ⟨w.heap.size, 2, none⟩ = false) ∧ w.heap.size < W.heap.size ∧ Below w.heap.size w W ∧ ∀ u0 u1 u2, Below w.heap.size w (((W.setCell ⟨w.heap.size, 0, none⟩ u0).setCell ⟨w.heap.size, 1, none⟩ u1).setCell ⟨w.heap.size, 2, none⟩ u2)) := fun W hW => by
    have h3 := (hW.block w.heap.size (by omega)).trans ho1
    have hb := bel_of hb1 hW (Nat.le_refl _)
    refine ⟨⟨by simp [World.cell?, h3], by simp [World.cell?, h3], by simp [World.cell?, h3]⟩, ⟨by simp [World.frozen?, h3], by simp [World.frozen?, h3], by simp [World.frozen?, h3]⟩, by have := hW.size; omega, hb, fun u0 u1 u2 => ?_⟩
    have c := (((Ch.refl (fun k => k = w.heap.size) W).setCell ⟨w.heap.size, 0, none⟩ u0 (fun _ => rfl)).setCell ⟨w.heap.size, 1, none⟩ u1 (fun _ => rfl)).setCell ⟨w.heap.size, 2, none⟩ u2 (fun _ => rfl)
    exact hb.trans (below_of_ch c hb.size (fun k hk e => by omega))
  have hw1 : IntKind.i64.wrap ((l.length : Int) - 1) = ((l.length - 1 : Nat) : Int) := by rw [IntKind.wrap_i64]; omega
  obtain ⟨n, hn⟩ : ∃ n : Nat, l.length - 1 = n := ⟨_, rfl⟩
  rw [hn] at hw1 CP1
  have h62 : b6 < W1.heap.size := by omega
  have h22 : b2 < W1.heap.size := by omega
  clear h h6 h2 hb6 hb2 hb1 ho1 hs1 hW1 CP hn
  rcases r with v | ⟨er, ea⟩ | _
  · obtain ⟨v1, v2, v3⟩ := v
    have CP2 : Calls Tryz.prog 45 _ W1 fun e w' => e = .returned (.agg #[.int .i64 v1, .int .i64 v2, .string (S v3)]) ∧ Below W1.heap.size W1 w' := CP1
    clear CP1
    go_enter Tryz.func44, Tryz.ntmps44
    go_upto_region 1 with fail
    rw [HW.out]
    go_wp2_with (go_at_call 45; refine CP2.mono ?_; rintro e w2 ⟨rfl, hb2⟩; obtain ⟨⟨r0, r1, r2⟩, ⟨f0, f1, f2⟩, hl2, hbw, hbs⟩ := HB.out w2 hb2; (have HS : Hid (∀ u0 u1 u2, Below w.heap.size w (((w2.setCell ⟨w.heap.size, 0, none⟩ u0).setCell ⟨w.heap.size, 1, none⟩ u1).setCell ⟨w.heap.size, 2, none⟩ u2)) := hbs); clear hb2 hbw hbs CP2)
    exact bodyPost_ret (v := .agg #[.int .i64 v1, .int .i64 v2, .string (S v3)]) (by simp [results, Tryz.results44, go_sem, r0, r1, r2]) rfl ⟨rfl, HS.out _ _ _⟩
  · have CP2 : Calls Tryz.prog 45 _ W1 fun e w' => e = .panicked (wrg er ea) ∧ Below W1.heap.size W1 w' := CP1
    clear CP1
    go_enter Tryz.func44, Tryz.ntmps44
    go_upto_region 1 with fail
    rw [HW.out]
    go_wp2_with (go_at_call 45; refine CP2.mono ?_; rintro e w2 ⟨rfl, hb2⟩; (have HS : Hid (Below w.heap.size w w2) := (HB.out w2 hb2).2.2.2.1); clear hb2 CP2)
    exact ⟨rfl, rfl, HS.out⟩
  · exact absurd rfl hr

/-- how attempt of a value ends -/
def ApV (w : World) (r : Ot V9) (e : Ending) (w' : World) : Prop := match r with
  | .ok v => e = .returned (.tuple #[vA' v, .agg #[.int .i64 0, .int .i64 0]]) ∧ Below w.heap.size w w'
  | .no er a => e = .returned (.tuple #[vA' v0, .agg #[.int .i64 er, .int .i64 a]]) ∧ Below w.heap.size w w'
  | .out => True
set_option maxHeartbeats 2000000 in
set_option maxRecDepth 100000 in
theorem attV_any {w : World} {q6 q2 : Value} {r : Ot V9} (CE : ∀ W, Below w.heap.size w W → Calls Tryz.prog 44 #[q6, q2] W (Vp W r)) (hr : r ≠ .out) : Calls Tryz.prog 43 #[.func (.func 44) #[] #[q6, q2]] w (ApV w r) := by
  have hmf : ∀ (fn : Fn) (first cap : Array Value) (w : World), (Instr.makeFunc fn first cap).run Tryz.prog w = .ok (.func fn first cap) w := fun _ _ _ _ => rfl
  obtain ⟨W1, hW1⟩ : ∃ W1, (w.alloc (.cells #[.int .i64 0, .int .i64 0, .string ⟨#[]⟩] 48)).alloc (.cells #[.int .i64 0, .int .i64 0] 63) = W1 := ⟨_, rfl⟩
  have hb1 : Below w.heap.size w W1 := by rw [← hW1]; exact ((Below.refl _ w).alloc (Nat.le_refl _) _).alloc (by simp) _
  have ho1 : W1.heap[w.heap.size]? = some (.cells #[.int .i64 0, .int .i64 0, .string ⟨#[]⟩] 48 (0, 0)) := by rw [← hW1]; exact (Below.heap_alloc _ _ _ (by simp)).trans (heap_alloc_new w _)
  have ho2 : W1.heap[w.heap.size + 1]? = some (.cells #[.int .i64 0, .int .i64 0] 63 (0, 0)) := by rw [← hW1]; have := heap_alloc_new (w.alloc (.cells #[.int .i64 0, .int .i64 0, .string ⟨#[]⟩] 48)) (.cells #[.int .i64 0, .int .i64 0] 63); rw [World.size_alloc] at this; exact this
  have hs1 : W1.heap.size = w.heap.size + 2 := by rw [← hW1]; simp
  have CE1 := CE W1 hb1
  have HW : Hid (_ = W1) := hW1
  have HB : Hid (∀ W, Below W1.heap.size W1 W → (W.cell? ⟨w.heap.size, 0, none⟩ = some (.int .i64 0) ∧ W.cell? ⟨w.heap.size, 1, none⟩ = some (.int .i64 0) ∧ W.cell? ⟨w.heap.size, 2, none⟩ = some (.string ⟨#[]⟩) ∧ W.cell? ⟨w.heap.size + 1, 0, none⟩ = some (.int .i64 0) ∧ W.cell? ⟨w.heap.size + 1, 1, none⟩ = some (.int .i64 0)) ∧ (W.frozen? ⟨w.heap.size, 0, none⟩ = false ∧ W.frozen? ⟨w.heap.size, 1, none⟩ = false ∧ W.frozen? ⟨w.heap.size, 2, none⟩ = false ∧ W.frozen? ⟨w.heap.size + 1, 0, none⟩ = false ∧ W.frozen? ⟨w.heap.size + 1, 1, none⟩ = false) ∧ (w.heap.size < W.heap.size ∧ w.heap.size + 1 < W.heap.size) ∧ Hid (∀ u0 u1 u2 u3 u4, Below w.heap.size w (((((W.setCell ⟨w.heap.size, 0, none⟩ u0).setCell ⟨w.heap.size, 1, none⟩ u1).setCell ⟨w.heap.size, 2, none⟩ u2).setCell ⟨w.heap.size + 1, 0, none⟩ u3).setCell ⟨w.heap.size + 1, 1, none⟩ u4)) ∧ Hid (∀ u3 u4, Below w.heap.size w ((W.setCell ⟨w.heap.size + 1, 0, none⟩ u3).setCell ⟨w.heap.size + 1, 1, none⟩ u4))) := fun W hW => by
    have h3 := (hW.block w.heap.size (by omega)).trans ho1
    have h4 := (hW.block (w.heap.size + 1) (by omega)).trans ho2
    have hb := bel_of hb1 hW (Nat.le_refl _)
    have hz := hW.size
    refine ⟨⟨by simp [World.cell?, h3], by simp [World.cell?, h3], by simp [World.cell?, h3], by simp [World.cell?, h4], by simp [World.cell?, h4]⟩, ⟨by simp [World.frozen?, h3], by simp [World.frozen?, h3], by simp [World.frozen?, h3], by simp [World.frozen?, h4], by simp [World.frozen?, h4]⟩, ⟨by omega, by omega⟩, fun u0 u1 u2 u3 u4 => ?_, fun u3 u4 => ?_⟩
    · have c := (((((Ch.refl (fun k => w.heap.size ≤ k) W).setCell ⟨w.heap.size, 0, none⟩ u0 (fun _ => Nat.le_refl _)).setCell ⟨w.heap.size, 1, none⟩ u1 (fun _ => Nat.le_refl _)).setCell ⟨w.heap.size, 2, none⟩ u2 (fun _ => Nat.le_refl _)).setCell ⟨w.heap.size + 1, 0, none⟩ u3 (fun _ => Nat.le_succ _)).setCell ⟨w.heap.size + 1, 1, none⟩ u4 (fun _ => Nat.le_succ _)
      exact hb.trans (below_of_ch c hb.size (fun k hk e => by omega))
    · have c := ((Ch.refl (fun k => w.heap.size ≤ k) W).setCell ⟨w.heap.size + 1, 0, none⟩ u3 (fun _ => Nat.le_succ _)).setCell ⟨w.heap.size + 1, 1, none⟩ u4 (fun _ => Nat.le_succ _)
      exact hb.trans (below_of_ch c hb.size (fun k hk e => by omega))
  clear hb1 ho1 ho2 hs1 hW1 CE
  rcases r with v | ⟨er, ea⟩ | _
  · obtain ⟨v1, v2, v3⟩ := v
    have CE2 : Calls Tryz.prog 44 _ W1 fun e w' => e = .returned (.agg #[.int .i64 v1, .int .i64 v2, .string (S v3)]) ∧ Below W1.heap.size W1 w' := CE1
    clear CE1
    go_enter_defers Tryz.func43, Tryz.ntmps43
    go_wp2_with (go_at_call 44; rw [HW.out]; refine CE2.mono ?_; rintro e w2 ⟨rfl, hb2⟩; obtain ⟨⟨d0, d1, d2, d3, d4⟩, ⟨f0, f1, f2, f3, f4⟩, ⟨hl2, hl3⟩, HS, -⟩ := HB.out w2 hb2; clear hb2 CE2)
    refine leaves_cons (f := 87) (args := #[.pointer (some ⟨w.heap.size + 1, 0, none⟩)]) (by simp) (by simp [go_sem]) ?_
    refine (catV_ok _ _).mono ?_
    rintro e u' w'' ⟨rfl, rfl, rfl⟩
    simp [Leaves, settle, results, Tryz.results43, go_sem, d0, d1, d2, d3, d4]
    exact ⟨rfl, HS.out _ _ _ _ _⟩
  · have CE2 : Calls Tryz.prog 44 _ W1 fun e w' => e = .panicked (wrg er ea) ∧ Below W1.heap.size W1 w' := CE1
    clear CE1
    go_enter_defers Tryz.func43, Tryz.ntmps43
    go_wp2_with (go_at_call 44; rw [HW.out]; refine CE2.mono ?_; rintro e w2 ⟨rfl, hb2⟩; obtain ⟨⟨d0, d1, d2, d3, d4⟩, ⟨f0, f1, f2, f3, f4⟩, ⟨hl2, hl3⟩, -, HS⟩ := HB.out w2 hb2; clear hb2 CE2)
    refine leaves_cons (f := 87) (args := #[.pointer (some ⟨w.heap.size + 1, 0, none⟩)]) (by simp) (by simp [go_sem]) ?_
    refine (catV_no (w.heap.size + 1) er ea 0 0 [] w2 d3 d4 f3 f4).mono ?_
    rintro e u' w'' ⟨rfl, rfl, rfl⟩
    simp [Leaves, settle, results, Tryz.results43, go_sem, d0, d1, d2, d3, d4]
    exact ⟨rfl, HS.out _ _⟩
  · exact absurd rfl hr

end Go.Proofs.YtpbfdaijnndilaaGreatDoor.x10
namespace Go.Proofs.YtpbfdaijnndilaaGreatDoor.x10
open Go.RowKit Go.Shelf Go.Sort
open Go.Lib hiding intOf

/-- a value, or an error -/
def vlO (r : Ot V9) : V9 × Int := match r with
  | .ok v => (v, 0)
  | .no e _ => (v0, e)
  | .out => (v0, 0)
/-- what Eval comes to -/
def evl (l : List P10) (vs : List Vr) : V9 × Int := if mayE l = true then (if rgt vs = true then vlO (rk l vs l.length (l.length - 1)) else (v0, 1)) else (v0, 3)
theorem cell_of {W : World} {b k : Nat} {cs : Array Value} {t : TypeId} {fr : Nat × Nat} (h : W.heap[b]? = some (.cells cs t fr)) {v : Value} (hv : cs[k]? = some v) : W.cell? ⟨b, k, none⟩ = some v := by simp [World.cell?, h, hv]
theorem ApV.both {w w' : World} {r : Ot V9} {e : Ending} (h : ApV w r e w') (hr : r ≠ .out) : ∃ a, e = .returned (.tuple #[vA' (vlO r).1, .agg #[.int .i64 (vlO r).2, .int .i64 a]]) ∧ Below w.heap.size w w' := by
  cases r with
  | ok v => exact ⟨0, h.1, h.2⟩
  | no e a => exact ⟨a, h.1, h.2⟩
  | out => exact absurd rfl hr
theorem rgt_small {vs : List Vr} (h : rgt vs = true) : vs.length ≤ 16 ∧ ∀ x ∈ vs, Sml x.2 := by
  obtain ⟨h1, -, h2⟩ := rgt_iff.1 h
  refine ⟨h1, fun x hx => ?_⟩
  have h3 := h2 x hx
  unfold okV at h3
  rw [Bool.and_eq_true] at h3
  exact may_len h3.2
set_option maxHeartbeats 2000000 in
set_option maxRecDepth 100000 in
theorem att_any {W : World} {b6 b2 rb : Nat} {xv vv : Value} {l : List P10} {vs : List Vr} (h : Rk W rb xv vv l vs) (h6 : W.cell? ⟨b6, 0, none⟩ = some (.pointer (some ⟨rb, 0, none⟩))) (h2 : W.cell? ⟨b2, 0, none⟩ = some xv) (hb6 : b6 < W.heap.size) (hb2 : b2 < W.heap.size) (hs : shp l = true) (hr : rgt vs = true) : Calls Tryz.prog 43 #[.func (.func 44) #[] #[.pointer (some ⟨b6, 0, none⟩), .pointer (some ⟨b2, 0, none⟩)]] W (fun e w' => ∃ a, e = .returned (.tuple #[vA' (vlO (rk l vs l.length (l.length - 1))).1, .agg #[.int .i64 (vlO (rk l vs l.length (l.length - 1))).2, .int .i64 a]]) ∧ Below W.heap.size W w') := by
  obtain ⟨h100, h1, hw⟩ := shp_wg hs
  obtain ⟨hn, hv⟩ := rgt_small hr
  have ho := rk_out (vs := vs) hw l.length (l.length - 1) (by omega) (by omega)
  refine (attV_any (fun W' hW => ?_) ho).mono (fun e w' h => h.both ho)
  exact evl1_any (h.up hW) ((hW.cell (p := ⟨b6, 0, none⟩) hb6).trans h6) ((hW.cell (p := ⟨b2, 0, none⟩) hb2).trans h2) (Nat.lt_of_lt_of_le hb6 hW.size) (Nat.lt_of_lt_of_le hb2 hW.size) ⟨h1, h100⟩ (fun W2 h2 => part_all hw hv hn l.length (l.length - 1) (by omega) (by omega) W2 h2) ho
set_option maxHeartbeats 2000000 in
set_option maxRecDepth 100000 in
theorem Eval_form {w : World} {B : Nat} {xv vv : Value} {l : List P10} {vs : List Vr} (hE : Es w xv l) (hg : Gx B w) (hB : B ≤ w.heap.size) (hV : Vs w vv vs) (hvn : vs.length ≤ 4611686018427387904) (hsm : Sm9 vs) (hsz : ∀ p ∈ l, p.2.2.2.2.2.length ≤ 4611686018427387904) (hn : l.length ≤ 4611686018427387904) (hm : mayE l = false) : Calls Tryz.prog 20 #[xv, vv] w fun e w' => e = .returned (.tuple #[vA' (evl l vs).1, .int .i64 (evl l vs).2]) ∧ Below w.heap.size w w' := by
  have HV : Hid (evl l vs = (v0, 3)) := by show _ = _; unfold evl; rw [if_neg (by rw [hm]; simp)]
  have c0 : (w.alloc (.cells #[xv] 24)).cell? ⟨w.heap.size, 0, none⟩ = some xv := World.cell?_alloc_new _ _ _ _
  obtain ⟨W1, hW1⟩ : ∃ W1, (w.alloc (.cells #[xv] 24)).alloc (.cells #[.int .i64 0, .int .i64 0, .string ⟨#[]⟩] 48) = W1 := ⟨_, rfl⟩
  have hb1 : Below w.heap.size w W1 := by rw [← hW1]; exact ((Below.refl _ w).alloc (Nat.le_refl _) _).alloc (by simp) _
  have ho1 : W1.heap[w.heap.size]? = some (.cells #[xv] 24 (0, 0)) := by rw [← hW1]; exact (Below.heap_alloc _ _ _ (by simp)).trans (heap_alloc_new w _)
  have ho2 : W1.heap[w.heap.size + 1]? = some (.cells #[.int .i64 0, .int .i64 0, .string ⟨#[]⟩] 48 (0, 0)) := by rw [← hW1]; have := heap_alloc_new (w.alloc (.cells #[xv] 24)) (.cells #[.int .i64 0, .int .i64 0, .string ⟨#[]⟩] 48); rw [World.size_alloc] at this; exact this
  have hs1 : W1.heap.size = w.heap.size + 2 := by rw [← hW1]; simp
  have CM := Maye_any (hE.below hb1) (hg.below (hb1.mono hB)) (Nat.le_trans hB hb1.size) hsz hn
  have HCR : Hid (∀ W, Below w.heap.size w W → _) := fun W hW => Right_any (hV.up hW) hvn hsm
  have HRK : Hid (∀ W rb mb, Below w.heap.size w W → W.cell? ⟨rb, 0, none⟩ = some xv → W.cell? ⟨rb, 1, none⟩ = some vv → W.cell? ⟨rb, 2, none⟩ = some (.map (some mb)) → Em W mb → rb < W.heap.size → Rk W rb xv vv l vs) := fun W rb mb hW a0 a1 a2 a3 a4 => ⟨a0, a1, ⟨mb, a2, a3⟩, a4, hE.below hW, hV.up hW⟩
  have HW : Hid (_ = W1) := hW1
  have HB1 : Hid (Below w.heap.size w W1) := hb1
  have HB : Hid (∀ W, Below W1.heap.size W1 W → W.cell? ⟨w.heap.size, 0, none⟩ = some xv ∧ (W.cell? ⟨w.heap.size + 1, 0, none⟩ = some (.int .i64 0) ∧ W.cell? ⟨w.heap.size + 1, 1, none⟩ = some (.int .i64 0) ∧ W.cell? ⟨w.heap.size + 1, 2, none⟩ = some (.string ⟨#[]⟩)) ∧ (W.frozen? ⟨w.heap.size + 1, 0, none⟩ = false ∧ W.frozen? ⟨w.heap.size + 1, 1, none⟩ = false ∧ W.frozen? ⟨w.heap.size + 1, 2, none⟩ = false) ∧ (w.heap.size < W.heap.size ∧ w.heap.size + 1 < W.heap.size) ∧ Hid (Below w.heap.size w W) ∧ Hid (∀ u0 u1 u2, Below w.heap.size w (((W.setCell ⟨w.heap.size + 1, 0, none⟩ u0).setCell ⟨w.heap.size + 1, 1, none⟩ u1).setCell ⟨w.heap.size + 1, 2, none⟩ u2))) := fun W hW => by
    have h3 := (hW.block w.heap.size (by omega)).trans ho1
    have h4 := (hW.block (w.heap.size + 1) (by omega)).trans ho2
    have hb := bel_of hb1 hW (Nat.le_refl _)
    have hz := hW.size
    refine ⟨by simp [World.cell?, h3], ⟨by simp [World.cell?, h4], by simp [World.cell?, h4], by simp [World.cell?, h4]⟩, ⟨by simp [World.frozen?, h4], by simp [World.frozen?, h4], by simp [World.frozen?, h4]⟩, ⟨by omega, by omega⟩, hb, fun u0 u1 u2 => ?_⟩
    have c := (((Ch.refl (fun k => w.heap.size ≤ k) W).setCell ⟨w.heap.size + 1, 0, none⟩ u0 (fun _ => Nat.le_succ _)).setCell ⟨w.heap.size + 1, 1, none⟩ u1 (fun _ => Nat.le_succ _)).setCell ⟨w.heap.size + 1, 2, none⟩ u2 (fun _ => Nat.le_succ _)
    exact hb.trans (below_of_ch c hb.size (fun k hk e => by omega))
  rw [hm] at CM
  obtain ⟨va, vcap, hxv, -⟩ := hE
  obtain ⟨wa, wcap, hvv, -⟩ := hV
  subst hxv hvv
  clear hg hB hvn hsm hsz hn hm hb1 ho1 ho2 hs1 hW1 HCR HRK
  go_enter Tryz.func20, Tryz.ntmps20
  go_upto_region 1 with fail
  rw [HW.out]
  have x0 := (HB.out W1 (Below.refl _ _)).1
  go_wp2_with (go_at_call 16; refine CM.mono ?_; rintro e w2 ⟨rfl, hb2⟩; (have H2 : Hid (Below W1.heap.size W1 w2) := hb2); obtain ⟨x2, ⟨r0, r1, r2⟩, ⟨f0, f1, f2⟩, ⟨hl0, hl1⟩, HBW, HS⟩ := HB.out w2 hb2; clear hb2 CM x0)
  refine bodyPost_ret (v := .tuple #[.agg #[.int .i64 0, .int .i64 0, .string ⟨#[]⟩], .int .i64 3]) (by simp [results, Tryz.results20, go_sem, r0, r1, r2]) rfl ?_
  rw [HV.out]
  exact ⟨rfl, HS.out _ _ _⟩
set_option maxHeartbeats 2000000 in
set_option maxRecDepth 100000 in
theorem Eval_arg {w : World} {B : Nat} {xv vv : Value} {l : List P10} {vs : List Vr} (hE : Es w xv l) (hg : Gx B w) (hB : B ≤ w.heap.size) (hV : Vs w vv vs) (hvn : vs.length ≤ 4611686018427387904) (hsm : Sm9 vs) (hsz : ∀ p ∈ l, p.2.2.2.2.2.length ≤ 4611686018427387904) (hn : l.length ≤ 4611686018427387904) (hm : mayE l = true) (hr : rgt vs = false) : Calls Tryz.prog 20 #[xv, vv] w fun e w' => e = .returned (.tuple #[vA' (evl l vs).1, .int .i64 (evl l vs).2]) ∧ Below w.heap.size w w' := by
  have HV : Hid (evl l vs = (v0, 1)) := by show _ = _; unfold evl; rw [if_pos hm, if_neg (by rw [hr]; simp)]
  have HR : Hid (rgt vs = false) := hr
  have c0 : (w.alloc (.cells #[xv] 24)).cell? ⟨w.heap.size, 0, none⟩ = some xv := World.cell?_alloc_new _ _ _ _
  obtain ⟨W1, hW1⟩ : ∃ W1, (w.alloc (.cells #[xv] 24)).alloc (.cells #[.int .i64 0, .int .i64 0, .string ⟨#[]⟩] 48) = W1 := ⟨_, rfl⟩
  have hb1 : Below w.heap.size w W1 := by rw [← hW1]; exact ((Below.refl _ w).alloc (Nat.le_refl _) _).alloc (by simp) _
  have ho1 : W1.heap[w.heap.size]? = some (.cells #[xv] 24 (0, 0)) := by rw [← hW1]; exact (Below.heap_alloc _ _ _ (by simp)).trans (heap_alloc_new w _)
  have ho2 : W1.heap[w.heap.size + 1]? = some (.cells #[.int .i64 0, .int .i64 0, .string ⟨#[]⟩] 48 (0, 0)) := by rw [← hW1]; have := heap_alloc_new (w.alloc (.cells #[xv] 24)) (.cells #[.int .i64 0, .int .i64 0, .string ⟨#[]⟩] 48); rw [World.size_alloc] at this; exact this
  have hs1 : W1.heap.size = w.heap.size + 2 := by rw [← hW1]; simp
  have CM := Maye_any (hE.below hb1) (hg.below (hb1.mono hB)) (Nat.le_trans hB hb1.size) hsz hn
  have HCR : Hid (∀ W, Below w.heap.size w W → _) := fun W hW => Right_any (hV.up hW) hvn hsm
  have HRK : Hid (∀ W rb mb, Below w.heap.size w W → W.cell? ⟨rb, 0, none⟩ = some xv → W.cell? ⟨rb, 1, none⟩ = some vv → W.cell? ⟨rb, 2, none⟩ = some (.map (some mb)) → Em W mb → rb < W.heap.size → Rk W rb xv vv l vs) := fun W rb mb hW a0 a1 a2 a3 a4 => ⟨a0, a1, ⟨mb, a2, a3⟩, a4, hE.below hW, hV.up hW⟩
  have HW : Hid (_ = W1) := hW1
  have HB1 : Hid (Below w.heap.size w W1) := hb1
  have HB : Hid (∀ W, Below W1.heap.size W1 W → W.cell? ⟨w.heap.size, 0, none⟩ = some xv ∧ (W.cell? ⟨w.heap.size + 1, 0, none⟩ = some (.int .i64 0) ∧ W.cell? ⟨w.heap.size + 1, 1, none⟩ = some (.int .i64 0) ∧ W.cell? ⟨w.heap.size + 1, 2, none⟩ = some (.string ⟨#[]⟩)) ∧ (W.frozen? ⟨w.heap.size + 1, 0, none⟩ = false ∧ W.frozen? ⟨w.heap.size + 1, 1, none⟩ = false ∧ W.frozen? ⟨w.heap.size + 1, 2, none⟩ = false) ∧ (w.heap.size < W.heap.size ∧ w.heap.size + 1 < W.heap.size) ∧ Hid (Below w.heap.size w W) ∧ Hid (∀ u0 u1 u2, Below w.heap.size w (((W.setCell ⟨w.heap.size + 1, 0, none⟩ u0).setCell ⟨w.heap.size + 1, 1, none⟩ u1).setCell ⟨w.heap.size + 1, 2, none⟩ u2))) := fun W hW => by
    have h3 := (hW.block w.heap.size (by omega)).trans ho1
    have h4 := (hW.block (w.heap.size + 1) (by omega)).trans ho2
    have hb := bel_of hb1 hW (Nat.le_refl _)
    have hz := hW.size
    refine ⟨by simp [World.cell?, h3], ⟨by simp [World.cell?, h4], by simp [World.cell?, h4], by simp [World.cell?, h4]⟩, ⟨by simp [World.frozen?, h4], by simp [World.frozen?, h4], by simp [World.frozen?, h4]⟩, ⟨by omega, by omega⟩, hb, fun u0 u1 u2 => ?_⟩
    have c := (((Ch.refl (fun k => w.heap.size ≤ k) W).setCell ⟨w.heap.size + 1, 0, none⟩ u0 (fun _ => Nat.le_succ _)).setCell ⟨w.heap.size + 1, 1, none⟩ u1 (fun _ => Nat.le_succ _)).setCell ⟨w.heap.size + 1, 2, none⟩ u2 (fun _ => Nat.le_succ _)
    exact hb.trans (below_of_ch c hb.size (fun k hk e => by omega))
  rw [hm] at CM
  obtain ⟨va, vcap, hxv, -⟩ := hE
  obtain ⟨wa, wcap, hvv, -⟩ := hV
  subst hxv hvv
  clear hg hB hvn hsm hsz hn hm hr hb1 ho1 ho2 hs1 hW1 HRK
  go_enter Tryz.func20, Tryz.ntmps20
  go_upto_region 1 with fail
  rw [HW.out]
  have x0 := (HB.out W1 (Below.refl _ _)).1
  go_wp2_with (first
    | (go_at_call 16; refine CM.mono ?_; rintro e w2 ⟨rfl, hb2⟩; (have H2 : Hid (Below W1.heap.size W1 w2) := hb2); obtain ⟨x2, ⟨r0, r1, r2⟩, ⟨f0, f1, f2⟩, ⟨hl0, hl1⟩, HBW, HS⟩ := HB.out w2 hb2; clear hb2 CM x0)
    | (go_at_call 41; refine (HCR.out w2 HBW.out).mono ?_; rw [HR.out]; rintro e w3 ⟨rfl, hb3⟩; (have H3 : Hid (Below W1.heap.size W1 w3) := H2.out.trans (hb3.mono H2.out.size)); clear r0 r1 r2 f0 f1 f2 hl0 hl1 x2 HBW HS; obtain ⟨x3, ⟨r0, r1, r2⟩, ⟨f0, f1, f2⟩, ⟨hl0, hl1⟩, HBW, HS⟩ := HB.out w3 H3.out; clear hb3))
  refine bodyPost_ret (v := .tuple #[.agg #[.int .i64 0, .int .i64 0, .string ⟨#[]⟩], .int .i64 1]) (by simp [results, Tryz.results20, go_sem, r0, r1, r2]) rfl ?_
  rw [HV.out]
  exact ⟨rfl, HS.out _ _ _⟩
set_option maxHeartbeats 2000000 in
set_option maxRecDepth 100000 in
theorem Eval_go {w : World} {B : Nat} {xv vv : Value} {l : List P10} {vs : List Vr} (hE : Es w xv l) (hg : Gx B w) (hB : B ≤ w.heap.size) (hV : Vs w vv vs) (hvn : vs.length ≤ 4611686018427387904) (hsm : Sm9 vs) (hsz : ∀ p ∈ l, p.2.2.2.2.2.length ≤ 4611686018427387904) (hn : l.length ≤ 4611686018427387904) (hm : mayE l = true) (hr : rgt vs = true) : Calls Tryz.prog 20 #[xv, vv] w fun e w' => e = .returned (.tuple #[vA' (evl l vs).1, .int .i64 (evl l vs).2]) ∧ Below w.heap.size w w' := by
  have HR : Hid (rgt vs = true) := hr
  have HSH : Hid (shp l = true ∧ rgt vs = true) := ⟨by unfold mayE at hm; rw [Bool.and_eq_true] at hm; exact hm.1, hr⟩
  have HV : Hid (evl l vs = vlO (rk l vs l.length (l.length - 1))) := by show _ = _; unfold evl; rw [if_pos hm, if_pos hr]
  have CO := fun W => operators_any W
  obtain ⟨R, hR⟩ : ∃ R, vlO (rk l vs l.length (l.length - 1)) = R := ⟨_, rfl⟩
  have HRR : Hid (vlO (rk l vs l.length (l.length - 1)) = R) := hR
  rw [HV.out, hR]
  clear hR HV
  obtain ⟨⟨u0, u1, u2⟩, ue⟩ := R
  unfold vA'
  simp only
  have c0 : (w.alloc (.cells #[xv] 24)).cell? ⟨w.heap.size, 0, none⟩ = some xv := World.cell?_alloc_new _ _ _ _
  obtain ⟨W1, hW1⟩ : ∃ W1, (w.alloc (.cells #[xv] 24)).alloc (.cells #[.int .i64 0, .int .i64 0, .string ⟨#[]⟩] 48) = W1 := ⟨_, rfl⟩
  have hb1 : Below w.heap.size w W1 := by rw [← hW1]; exact ((Below.refl _ w).alloc (Nat.le_refl _) _).alloc (by simp) _
  have ho1 : W1.heap[w.heap.size]? = some (.cells #[xv] 24 (0, 0)) := by rw [← hW1]; exact (Below.heap_alloc _ _ _ (by simp)).trans (heap_alloc_new w _)
  have ho2 : W1.heap[w.heap.size + 1]? = some (.cells #[.int .i64 0, .int .i64 0, .string ⟨#[]⟩] 48 (0, 0)) := by rw [← hW1]; have := heap_alloc_new (w.alloc (.cells #[xv] 24)) (.cells #[.int .i64 0, .int .i64 0, .string ⟨#[]⟩] 48); rw [World.size_alloc] at this; exact this
  have hs1 : W1.heap.size = w.heap.size + 2 := by rw [← hW1]; simp
  have CM := Maye_any (hE.below hb1) (hg.below (hb1.mono hB)) (Nat.le_trans hB hb1.size) hsz hn
  have HCR : Hid (∀ W, Below w.heap.size w W → _) := fun W hW => Right_any (hV.up hW) hvn hsm
  have HRK : Hid (∀ W rb mb, Below w.heap.size w W → W.cell? ⟨rb, 0, none⟩ = some xv → W.cell? ⟨rb, 1, none⟩ = some vv → W.cell? ⟨rb, 2, none⟩ = some (.map (some mb)) → Em W mb → rb < W.heap.size → Rk W rb xv vv l vs) := fun W rb mb hW a0 a1 a2 a3 a4 => ⟨a0, a1, ⟨mb, a2, a3⟩, a4, hE.below hW, hV.up hW⟩
  have HW : Hid (_ = W1) := hW1
  have HB1 : Hid (Below w.heap.size w W1) := hb1
  have HB : Hid (∀ W, Below W1.heap.size W1 W → W.cell? ⟨w.heap.size, 0, none⟩ = some xv ∧ (W.cell? ⟨w.heap.size + 1, 0, none⟩ = some (.int .i64 0) ∧ W.cell? ⟨w.heap.size + 1, 1, none⟩ = some (.int .i64 0) ∧ W.cell? ⟨w.heap.size + 1, 2, none⟩ = some (.string ⟨#[]⟩)) ∧ (W.frozen? ⟨w.heap.size + 1, 0, none⟩ = false ∧ W.frozen? ⟨w.heap.size + 1, 1, none⟩ = false ∧ W.frozen? ⟨w.heap.size + 1, 2, none⟩ = false) ∧ (w.heap.size < W.heap.size ∧ w.heap.size + 1 < W.heap.size) ∧ Hid (Below w.heap.size w W) ∧ Hid (∀ u0 u1 u2, Below w.heap.size w (((W.setCell ⟨w.heap.size + 1, 0, none⟩ u0).setCell ⟨w.heap.size + 1, 1, none⟩ u1).setCell ⟨w.heap.size + 1, 2, none⟩ u2))) := fun W hW => by
    have h3 := (hW.block w.heap.size (by omega)).trans ho1
    have h4 := (hW.block (w.heap.size + 1) (by omega)).trans ho2
    have hb := bel_of hb1 hW (Nat.le_refl _)
    have hz := hW.size
    refine ⟨by simp [World.cell?, h3], ⟨by simp [World.cell?, h4], by simp [World.cell?, h4], by simp [World.cell?, h4]⟩, ⟨by simp [World.frozen?, h4], by simp [World.frozen?, h4], by simp [World.frozen?, h4]⟩, ⟨by omega, by omega⟩, hb, fun u0 u1 u2 => ?_⟩
    have c := (((Ch.refl (fun k => w.heap.size ≤ k) W).setCell ⟨w.heap.size + 1, 0, none⟩ u0 (fun _ => Nat.le_succ _)).setCell ⟨w.heap.size + 1, 1, none⟩ u1 (fun _ => Nat.le_succ _)).setCell ⟨w.heap.size + 1, 2, none⟩ u2 (fun _ => Nat.le_succ _)
    exact hb.trans (below_of_ch c hb.size (fun k hk e => by omega))
  rw [hm] at CM
  obtain ⟨va, vcap, hxv, -⟩ := hE
  obtain ⟨wa, wcap, hvv, -⟩ := hV
  subst hxv hvv
  clear hg hB hvn hsm hsz hn hm hr hb1 ho1 ho2 hs1 hW1
  go_enter Tryz.func20, Tryz.ntmps20
  go_upto_region 1 with fail
  rw [HW.out]
  have x0 := (HB.out W1 (Below.refl _ _)).1
  go_upto_region 5 with (first
    | (go_at_call 16; refine CM.mono ?_; rintro e w2 ⟨rfl, hb2⟩; (have H2 : Hid (Below W1.heap.size W1 w2) := hb2); obtain ⟨x2, ⟨r0, r1, r2⟩, ⟨f0, f1, f2⟩, ⟨hl0, hl1⟩, HBW, HS⟩ := HB.out w2 hb2; clear hb2 CM x0)
    | (go_at_call 41; refine (HCR.out w2 HBW.out).mono ?_; rw [HR.out]; rintro e w3 ⟨rfl, hb3⟩; (have H3 : Hid (Below W1.heap.size W1 w3) := H2.out.trans (hb3.mono H2.out.size)); clear r0 r1 r2 f0 f1 f2 hl0 hl1 x2 HBW HS; obtain ⟨x3, ⟨r0, r1, r2⟩, ⟨f0, f1, f2⟩, ⟨hl0, hl1⟩, HBW, HS⟩ := HB.out w3 H3.out; clear hb3))
  clear r0 r1 r2 f0 f1 f2 hl0 hl1
  refine wp_region_held_drew (S := (fun W => W.cell? ⟨w.heap.size, 0, none⟩ = some (.slice va l.length vcap))) (by kernel_rfl) (by first | exact x3 | exact x4 | go_keep) (fun hHeld => ?_)
  refine wpAnyH_take (i := 0) (v := ?_) rfl (by kernel_rfl) (by kernel_rfl) (by kernel_rfl) (fun _ _ _ h => h) (Or.inl ⟨by rfl, ?_⟩) (by assumption) ?_
  rotate_left 1
  · intro w hSw; (try dsimp only at hSw); go_simp; try with_reducible rfl
  refine wpAnyH_take (i := 1) (v := ?_) rfl (by kernel_rfl) (by kernel_rfl) (by kernel_rfl) (fun _ _ _ h => h) (Or.inl ⟨by rfl, ?_⟩) (by assumption) ?_
  rotate_left 1
  · intro w hSw; (try dsimp only at hSw); go_simp; try with_reducible rfl
  refine wpAnyH_ready (rs := [2, 5]) (by kernel_rfl) (by simp) ?_
  refine AllReadyH.cons rfl (fun K hK => ?_) ?_
  · go_simp
    (go_at_call 42; refine (CO _).mono ?_; rintro e w4 ⟨mb, rfl, hem, hml, hb4⟩; (have HO : Hid (Em w4 mb ∧ mb < w4.heap.size) := ⟨hem, hml⟩); (have H4 : Hid (Below W1.heap.size W1 w4) := H3.out.drew.trans (hb4.mono H3.out.size)); (have x4 := (HB.out w4 H4.out).1); (have hl4 := (HB.out w4 H4.out).2.2.2.1); clear hem hml hb4)
    go_wp2_with fail
    refine hK.out _ _ (by first | exact x3 | exact x4 | go_keep) (fun hHeld => ?_)
    clear hK K
    refine wpAnyH_take (i := 3) (v := ?_) rfl (by kernel_rfl) (by kernel_rfl) (by kernel_rfl) (fun _ _ _ h => h) (Or.inl ⟨by rfl, ?_⟩) (by assumption) ?_
    rotate_left 1
    · intro w hSw; (try dsimp only at hSw); go_simp; try with_reducible rfl
    refine wpAnyH_ready (rs := [4, 5]) (by kernel_rfl) (by simp) ?_
    refine AllReadyH.cons rfl (fun K hK => ?_) ?_
    · go_simp
      refine hK.out _ _ (by first | exact x3 | exact x4 | go_keep) (fun hHeld => ?_)
      clear hK K
      refine wpAnyH_ready (rs := [5]) (by kernel_rfl) (by simp) ?_
      refine AllReadyH.cons rfl (fun K hK => ?_) AllReadyH.nil
      go_simp
      refine hK.out _ _ (by first | exact x3 | exact x4 | go_keep) (fun hHeld => ?_)
      clear hK K
      refine wpAnyH_ready (rs := [6]) (by kernel_rfl) (by simp) ?_
      refine AllReadyH.cons rfl (fun K hK => ?_) AllReadyH.nil
      go_simp
      refine hK.out _ _ (by first | exact x3 | exact x4 | go_keep) (fun hHeld => ?_)
      clear hK K
      refine wpAnyH_done (by kernel_rfl) ?_ _
      obtain ⟨W6, hW6⟩ : ∃ W6, (w4.alloc (.cells #[.slice va l.length vcap, .slice wa vs.length wcap, .map (some mb)] 89)).alloc (.cells #[.pointer (some ⟨w4.heap.size, 0, none⟩)] 85) = W6 := ⟨_, rfl⟩
      rw [hW6]
      have q1 : W6.heap[w4.heap.size]? = some (.cells #[.slice va l.length vcap, .slice wa vs.length wcap, .map (some mb)] 89 (0, 0)) := by rw [← hW6]; exact (Below.heap_alloc _ _ _ (by simp)).trans (heap_alloc_new w4 _)
      have c6 : W6.cell? ⟨w4.heap.size + 1, 0, none⟩ = some (.pointer (some ⟨w4.heap.size, 0, none⟩)) := by rw [← hW6]; have := heap_alloc_new (w4.alloc (.cells #[.slice va l.length vcap, .slice wa vs.length wcap, .map (some mb)] 89)) (.cells #[.pointer (some ⟨w4.heap.size, 0, none⟩)] 85); rw [World.size_alloc] at this; exact cell_of this rfl
      have hm6 : Em W6 mb := by rw [← hW6]; exact HO.out.1.below (((Below.refl _ w4).alloc (Nat.le_refl _) _).alloc (by simp) _)
      have h6 : w4.heap.size + 1 < W6.heap.size := by rw [← hW6]; simp only [World.size_alloc]; omega
      have HB6 : Hid (Below W1.heap.size W1 W6) := by rw [← hW6]; exact (H4.out.alloc H4.out.size _).alloc (by have := H4.out.size; rw [World.size_alloc]; omega) _
      obtain ⟨x6, -, -, ⟨hl0, hl1⟩, HBW6, -⟩ := HB.out W6 HB6.out
      have CA := att_any (HRK.out W6 (w4.heap.size) mb HBW6.out (by simp [World.cell?, q1]) (by simp [World.cell?, q1]) (by simp [World.cell?, q1]) hm6 (Array.getElem?_eq_some_iff.1 q1).1) c6 x6 h6 hl0 HSH.out.1 HSH.out.2
      rw [HRR.out] at CA
      unfold vA' at CA
      simp only at CA
      clear q1 hm6 hW6 hl0 hl1 HRK HSH
      go_wp2_with (go_at_call 43; refine CA.mono ?_; rintro e w7 ⟨ea, rfl, hb7⟩; (have H7 : Hid (Below W1.heap.size W1 w7) := HB6.out.trans (hb7.mono HB6.out.size)); obtain ⟨-, ⟨r0, r1, r2⟩, ⟨f0, f1, f2⟩, ⟨hl0, hl1⟩, HBW7, -⟩ := HB.out w7 H7.out; clear hb7 CA)
      obtain ⟨W8, hW8⟩ : ∃ W8, (w7.alloc (.cells #[.int .i64 u0, .int .i64 u1, .string (S u2)] 48)).alloc (.cells #[.int .i64 ue, .int .i64 ea] 63) = W8 := ⟨_, rfl⟩
      rw [hW8]
      have H8 : Hid (Below W1.heap.size W1 W8) := by rw [← hW8]; exact (H7.out.alloc H7.out.size _).alloc (by have := H7.out.size; rw [World.size_alloc]; omega) _
      have q1 : W8.heap[w7.heap.size]? = some (.cells #[.int .i64 u0, .int .i64 u1, .string (S u2)] 48 (0, 0)) := by rw [← hW8]; exact (Below.heap_alloc _ _ _ (by simp)).trans (heap_alloc_new w7 _)
      have q2 : W8.heap[w7.heap.size + 1]? = some (.cells #[.int .i64 ue, .int .i64 ea] 63 (0, 0)) := by rw [← hW8]; have := heap_alloc_new (w7.alloc (.cells #[.int .i64 u0, .int .i64 u1, .string (S u2)] 48)) (.cells #[.int .i64 ue, .int .i64 ea] 63); rw [World.size_alloc] at this; exact this
      have j0 := cell_of (k := 0) q1 rfl
      have j1 := cell_of (k := 1) q1 rfl
      have j2 := cell_of (k := 2) q1 rfl
      have j3 := cell_of (k := 0) q2 rfl
      clear r0 r1 r2 f0 f1 f2 hl0 hl1 q1 q2 hW8
      obtain ⟨-, ⟨r0, r1, r2⟩, ⟨f0, f1, f2⟩, ⟨hl0, hl1⟩, -, HS8⟩ := HB.out W8 H8.out
      have nA : ¬ w.heap.size + 1 = w7.heap.size := by have h1 := H7.out.size; have h2 := HB1.out.size; have h3 := (HB.out W1 (Below.refl _ _)).2.2.2.1.2; omega
      have nB : ¬ w7.heap.size = w.heap.size + 1 := fun e => nA e.symm
      have nC : ¬ w.heap.size + 1 = w7.heap.size + 1 := by have h1 := H7.out.size; have h2 := HB1.out.size; have h3 := (HB.out W1 (Below.refl _ _)).2.2.2.1.2; omega
      have nD : ¬ w7.heap.size + 1 = w.heap.size + 1 := fun e => nC e.symm
      go_region
      all_goals
        go_wp2
        exact bodyPost_ret (v := .tuple #[.agg #[.int .i64 u0, .int .i64 u1, .string (S u2)], .int .i64 ue]) (by simp [results, Tryz.results20, go_sem, r0, r1, r2]) rfl ⟨rfl, (HS8.out _ _ _).drew⟩
    refine AllReadyH.cons rfl (fun K hK => ?_) AllReadyH.nil
    go_simp
    refine hK.out _ _ (by first | exact x3 | exact x4 | go_keep) (fun hHeld => ?_)
    clear hK K
    refine wpAnyH_ready (rs := [4]) (by kernel_rfl) (by simp) ?_
    refine AllReadyH.cons rfl (fun K hK => ?_) AllReadyH.nil
    go_simp
    refine hK.out _ _ (by first | exact x3 | exact x4 | go_keep) (fun hHeld => ?_)
    clear hK K
    refine wpAnyH_ready (rs := [6]) (by kernel_rfl) (by simp) ?_
    refine AllReadyH.cons rfl (fun K hK => ?_) AllReadyH.nil
    go_simp
    refine hK.out _ _ (by first | exact x3 | exact x4 | go_keep) (fun hHeld => ?_)
    clear hK K
    refine wpAnyH_done (by kernel_rfl) ?_ _
    obtain ⟨W6, hW6⟩ : ∃ W6, (w4.alloc (.cells #[.pointer (some ⟨w4.heap.size + 1, 0, none⟩)] 85)).alloc (.cells #[.slice va l.length vcap, .slice wa vs.length wcap, .map (some mb)] 89) = W6 := ⟨_, rfl⟩
    rw [hW6]
    have q1 : W6.heap[w4.heap.size + 1]? = some (.cells #[.slice va l.length vcap, .slice wa vs.length wcap, .map (some mb)] 89 (0, 0)) := by rw [← hW6]; exact (by have := heap_alloc_new (w4.alloc (.cells #[.pointer (some ⟨w4.heap.size + 1, 0, none⟩)] 85)) (.cells #[.slice va l.length vcap, .slice wa vs.length wcap, .map (some mb)] 89); rw [World.size_alloc] at this; exact this)
    have c6 : W6.cell? ⟨w4.heap.size, 0, none⟩ = some (.pointer (some ⟨w4.heap.size + 1, 0, none⟩)) := by rw [← hW6]; exact cell_of ((Below.heap_alloc _ _ _ (by simp)).trans (heap_alloc_new w4 (.cells #[.pointer (some ⟨w4.heap.size + 1, 0, none⟩)] 85))) rfl
    have hm6 : Em W6 mb := by rw [← hW6]; exact HO.out.1.below (((Below.refl _ w4).alloc (Nat.le_refl _) _).alloc (by simp) _)
    have h6 : w4.heap.size < W6.heap.size := by rw [← hW6]; simp only [World.size_alloc]; omega
    have HB6 : Hid (Below W1.heap.size W1 W6) := by rw [← hW6]; exact (H4.out.alloc H4.out.size _).alloc (by have := H4.out.size; rw [World.size_alloc]; omega) _
    obtain ⟨x6, -, -, ⟨hl0, hl1⟩, HBW6, -⟩ := HB.out W6 HB6.out
    have CA := att_any (HRK.out W6 (w4.heap.size + 1) mb HBW6.out (by simp [World.cell?, q1]) (by simp [World.cell?, q1]) (by simp [World.cell?, q1]) hm6 (Array.getElem?_eq_some_iff.1 q1).1) c6 x6 h6 hl0 HSH.out.1 HSH.out.2
    rw [HRR.out] at CA
    unfold vA' at CA
    simp only at CA
    clear q1 hm6 hW6 hl0 hl1 HRK HSH
    go_wp2_with (go_at_call 43; refine CA.mono ?_; rintro e w7 ⟨ea, rfl, hb7⟩; (have H7 : Hid (Below W1.heap.size W1 w7) := HB6.out.trans (hb7.mono HB6.out.size)); obtain ⟨-, ⟨r0, r1, r2⟩, ⟨f0, f1, f2⟩, ⟨hl0, hl1⟩, HBW7, -⟩ := HB.out w7 H7.out; clear hb7 CA)
    obtain ⟨W8, hW8⟩ : ∃ W8, (w7.alloc (.cells #[.int .i64 u0, .int .i64 u1, .string (S u2)] 48)).alloc (.cells #[.int .i64 ue, .int .i64 ea] 63) = W8 := ⟨_, rfl⟩
    rw [hW8]
    have H8 : Hid (Below W1.heap.size W1 W8) := by rw [← hW8]; exact (H7.out.alloc H7.out.size _).alloc (by have := H7.out.size; rw [World.size_alloc]; omega) _
    have q1 : W8.heap[w7.heap.size]? = some (.cells #[.int .i64 u0, .int .i64 u1, .string (S u2)] 48 (0, 0)) := by rw [← hW8]; exact (Below.heap_alloc _ _ _ (by simp)).trans (heap_alloc_new w7 _)
    have q2 : W8.heap[w7.heap.size + 1]? = some (.cells #[.int .i64 ue, .int .i64 ea] 63 (0, 0)) := by rw [← hW8]; have := heap_alloc_new (w7.alloc (.cells #[.int .i64 u0, .int .i64 u1, .string (S u2)] 48)) (.cells #[.int .i64 ue, .int .i64 ea] 63); rw [World.size_alloc] at this; exact this
    have j0 := cell_of (k := 0) q1 rfl
    have j1 := cell_of (k := 1) q1 rfl
    have j2 := cell_of (k := 2) q1 rfl
    have j3 := cell_of (k := 0) q2 rfl
    clear r0 r1 r2 f0 f1 f2 hl0 hl1 q1 q2 hW8
    obtain ⟨-, ⟨r0, r1, r2⟩, ⟨f0, f1, f2⟩, ⟨hl0, hl1⟩, -, HS8⟩ := HB.out W8 H8.out
    have nA : ¬ w.heap.size + 1 = w7.heap.size := by have h1 := H7.out.size; have h2 := HB1.out.size; have h3 := (HB.out W1 (Below.refl _ _)).2.2.2.1.2; omega
    have nB : ¬ w7.heap.size = w.heap.size + 1 := fun e => nA e.symm
    have nC : ¬ w.heap.size + 1 = w7.heap.size + 1 := by have h1 := H7.out.size; have h2 := HB1.out.size; have h3 := (HB.out W1 (Below.refl _ _)).2.2.2.1.2; omega
    have nD : ¬ w7.heap.size + 1 = w.heap.size + 1 := fun e => nC e.symm
    go_region
    all_goals
      go_wp2
      exact bodyPost_ret (v := .tuple #[.agg #[.int .i64 u0, .int .i64 u1, .string (S u2)], .int .i64 ue]) (by simp [results, Tryz.results20, go_sem, r0, r1, r2]) rfl ⟨rfl, (HS8.out _ _ _).drew⟩
  refine AllReadyH.cons rfl (fun K hK => ?_) AllReadyH.nil
  go_simp
  refine hK.out _ _ (by first | exact x3 | exact x4 | go_keep) (fun hHeld => ?_)
  clear hK K
  refine wpAnyH_ready (rs := [2]) (by kernel_rfl) (by simp) ?_
  refine AllReadyH.cons rfl (fun K hK => ?_) AllReadyH.nil
  go_simp
  (go_at_call 42; refine (CO _).mono ?_; rintro e w4 ⟨mb, rfl, hem, hml, hb4⟩; (have HO : Hid (Em w4 mb ∧ mb < w4.heap.size) := ⟨hem, hml⟩); (have H4 : Hid (Below W1.heap.size W1 w4) := (H3.out.alloc H3.out.size _).drew.trans (hb4.mono (show W1.heap.size ≤ (w3.alloc _).heap.size by rw [World.size_alloc]; exact Nat.le_succ_of_le H3.out.size))); (have x4 := (HB.out w4 H4.out).1); (have hl4 := (HB.out w4 H4.out).2.2.2.1); (have hz4 : w4.heap[w3.heap.size]? = some (.cells #[.pointer none] 85 (0, 0)) := (hb4.block w3.heap.size (show w3.heap.size < (w3.alloc _).heap.size by rw [World.size_alloc]; exact Nat.lt_succ_self _)).trans (heap_alloc_new w3 _)); (have z0 : w4.cell? ⟨w3.heap.size, 0, none⟩ = some (.pointer none) := by simp [World.cell?, hz4]); (have s0 : w4.frozen? ⟨w3.heap.size, 0, none⟩ = false := by simp [World.frozen?, hz4]); (have hl5 : w3.heap.size < w4.heap.size := by have h0 : (w3.alloc (.cells #[.pointer none] 85)).heap.size ≤ w4.heap.size := hb4.size; rw [World.size_alloc] at h0; omega); (have HZ4 : Hid (w4.heap[w3.heap.size]? = some (.cells #[.pointer none] 85 (0, 0))) := hz4); (have nE : ¬ w3.heap.size = w.heap.size := by have h1 := H3.out.size; have h3 := (HB.out W1 (Below.refl _ _)).2.2.2.1.2; omega); (have nF : ¬ w.heap.size = w3.heap.size := fun e => nE e.symm); clear hem hml hb4 hz4)
  go_wp2_with fail
  refine hK.out _ _ (by first | exact x3 | exact x4 | go_keep) (fun hHeld => ?_)
  clear hK K
  refine wpAnyH_take (i := 3) (v := ?_) rfl (by kernel_rfl) (by kernel_rfl) (by kernel_rfl) (fun _ _ _ h => h) (Or.inl ⟨by rfl, ?_⟩) (by assumption) ?_
  rotate_left 1
  · intro w hSw; (try dsimp only at hSw); go_simp; try with_reducible rfl
  refine wpAnyH_ready (rs := [4]) (by kernel_rfl) (by simp) ?_
  refine AllReadyH.cons rfl (fun K hK => ?_) AllReadyH.nil
  go_simp
  refine hK.out _ _ (by first | exact x3 | exact x4 | go_keep) (fun hHeld => ?_)
  clear hK K
  refine wpAnyH_ready (rs := [6]) (by kernel_rfl) (by simp) ?_
  refine AllReadyH.cons rfl (fun K hK => ?_) AllReadyH.nil
  go_simp
  refine hK.out _ _ (by first | exact x3 | exact x4 | go_keep) (fun hHeld => ?_)
  clear hK K
  refine wpAnyH_done (by kernel_rfl) ?_ _
  obtain ⟨W6, hW6⟩ : ∃ W6, (w4.setCell ⟨w3.heap.size, 0, none⟩ (.pointer (some ⟨w4.heap.size, 0, none⟩))).alloc (.cells #[.slice va l.length vcap, .slice wa vs.length wcap, .map (some mb)] 89) = W6 := ⟨_, rfl⟩
  rw [hW6]
  have q1 : W6.heap[w4.heap.size]? = some (.cells #[.slice va l.length vcap, .slice wa vs.length wcap, .map (some mb)] 89 (0, 0)) := by rw [← hW6]; exact (by have := heap_alloc_new (w4.setCell ⟨w3.heap.size, 0, none⟩ (.pointer (some ⟨w4.heap.size, 0, none⟩))) (.cells #[.slice va l.length vcap, .slice wa vs.length wcap, .map (some mb)] 89); rw [World.size_setCell] at this; exact this)
  have c6 : W6.cell? ⟨w3.heap.size, 0, none⟩ = some (.pointer (some ⟨w4.heap.size, 0, none⟩)) := by rw [← hW6]; exact ((Below.refl _ _).alloc (Nat.le_refl _) _ |>.cell (p := ⟨w3.heap.size, 0, none⟩) (by rw [World.size_setCell]; exact hl5)).trans (World.cell?_setCell_same _ _ _ z0)
  have hm6 : Em W6 mb := by rw [← hW6]; exact Em.ch (X := fun k => k = w3.heap.size) HO.out.1 (((Ch.refl (fun k => k = w3.heap.size) w4).setCell _ _ (fun _ => rfl)).alloc _) (fun e => by obtain ⟨n, es, ck, h1, -⟩ := HO.out.1; rw [show mb = w3.heap.size from e, HZ4.out] at h1; cases h1)
  have h6 : w3.heap.size < W6.heap.size := by rw [← hW6]; simp only [World.size_alloc, World.size_setCell]; omega
  have HB6 : Hid (Below W1.heap.size W1 W6) := by rw [← hW6]; exact (H4.out.trans (below_of_ch ((Ch.refl (fun k => k = w3.heap.size) w4).setCell _ _ (fun _ => rfl)) H4.out.size (fun k hk e => by have := H3.out.size; omega))).alloc (by have := H4.out.size; rw [World.size_setCell]; exact this) _
  obtain ⟨x6, -, -, ⟨hl0, hl1⟩, HBW6, -⟩ := HB.out W6 HB6.out
  have CA := att_any (HRK.out W6 (w4.heap.size) mb HBW6.out (by simp [World.cell?, q1]) (by simp [World.cell?, q1]) (by simp [World.cell?, q1]) hm6 (Array.getElem?_eq_some_iff.1 q1).1) c6 x6 h6 hl0 HSH.out.1 HSH.out.2
  rw [HRR.out] at CA
  unfold vA' at CA
  simp only at CA
  clear q1 hm6 hW6 hl0 hl1 HRK HSH
  go_wp2_with (go_at_call 43; refine CA.mono ?_; rintro e w7 ⟨ea, rfl, hb7⟩; (have H7 : Hid (Below W1.heap.size W1 w7) := HB6.out.trans (hb7.mono HB6.out.size)); obtain ⟨-, ⟨r0, r1, r2⟩, ⟨f0, f1, f2⟩, ⟨hl0, hl1⟩, HBW7, -⟩ := HB.out w7 H7.out; clear hb7 CA)
  obtain ⟨W8, hW8⟩ : ∃ W8, (w7.alloc (.cells #[.int .i64 u0, .int .i64 u1, .string (S u2)] 48)).alloc (.cells #[.int .i64 ue, .int .i64 ea] 63) = W8 := ⟨_, rfl⟩
  rw [hW8]
  have H8 : Hid (Below W1.heap.size W1 W8) := by rw [← hW8]; exact (H7.out.alloc H7.out.size _).alloc (by have := H7.out.size; rw [World.size_alloc]; omega) _
  have q1 : W8.heap[w7.heap.size]? = some (.cells #[.int .i64 u0, .int .i64 u1, .string (S u2)] 48 (0, 0)) := by rw [← hW8]; exact (Below.heap_alloc _ _ _ (by simp)).trans (heap_alloc_new w7 _)
  have q2 : W8.heap[w7.heap.size + 1]? = some (.cells #[.int .i64 ue, .int .i64 ea] 63 (0, 0)) := by rw [← hW8]; have := heap_alloc_new (w7.alloc (.cells #[.int .i64 u0, .int .i64 u1, .string (S u2)] 48)) (.cells #[.int .i64 ue, .int .i64 ea] 63); rw [World.size_alloc] at this; exact this
  have j0 := cell_of (k := 0) q1 rfl
  have j1 := cell_of (k := 1) q1 rfl
  have j2 := cell_of (k := 2) q1 rfl
  have j3 := cell_of (k := 0) q2 rfl
  clear r0 r1 r2 f0 f1 f2 hl0 hl1 q1 q2 hW8
  obtain ⟨-, ⟨r0, r1, r2⟩, ⟨f0, f1, f2⟩, ⟨hl0, hl1⟩, -, HS8⟩ := HB.out W8 H8.out
  have nA : ¬ w.heap.size + 1 = w7.heap.size := by have h1 := H7.out.size; have h2 := HB1.out.size; have h3 := (HB.out W1 (Below.refl _ _)).2.2.2.1.2; omega
  have nB : ¬ w7.heap.size = w.heap.size + 1 := fun e => nA e.symm
  have nC : ¬ w.heap.size + 1 = w7.heap.size + 1 := by have h1 := H7.out.size; have h2 := HB1.out.size; have h3 := (HB.out W1 (Below.refl _ _)).2.2.2.1.2; omega
  have nD : ¬ w7.heap.size + 1 = w.heap.size + 1 := fun e => nC e.symm
  go_region
  all_goals
    go_wp2
    exact bodyPost_ret (v := .tuple #[.agg #[.int .i64 u0, .int .i64 u1, .string (S u2)], .int .i64 ue]) (by simp [results, Tryz.results20, go_sem, r0, r1, r2]) rfl ⟨rfl, (HS8.out _ _ _).drew⟩

theorem Eval_any {w : World} {B : Nat} {xv vv : Value} {l : List P10} {vs : List Vr} (hE : Es w xv l) (hg : Gx B w) (hB : B ≤ w.heap.size) (hV : Vs w vv vs) (hvn : vs.length ≤ 4611686018427387904) (hsm : Sm9 vs) (hsz : ∀ p ∈ l, p.2.2.2.2.2.length ≤ 4611686018427387904) (hn : l.length ≤ 4611686018427387904) : Calls Tryz.prog 20 #[xv, vv] w fun e w' => e = .returned (.tuple #[vA' (evl l vs).1, .int .i64 (evl l vs).2]) ∧ Below w.heap.size w w' := by
  cases hm : mayE l with
  | false => exact Eval_form hE hg hB hV hvn hsm hsz hn hm
  | true => cases hr : rgt vs with
    | false => exact Eval_arg hE hg hB hV hvn hsm hsz hn hm hr
    | true => exact Eval_go hE hg hB hV hvn hsm hsz hn hm hr
end Go.Proofs.YtpbfdaijnndilaaGreatDoor.x10

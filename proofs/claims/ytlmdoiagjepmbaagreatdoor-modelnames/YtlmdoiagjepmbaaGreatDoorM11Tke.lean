/-
  Package model: Take.
-/
import Derived.Test.YtlmdoiagjepmbaaGreatDoorM11Tak
namespace Go.Proofs.YtlmdoiagjepmbaaGreatDoor.m11
open Go.Proofs.YtlmdoiagjepmbaaGreatDoor.x10
open Go.RowKit Go.Shelf Go.Sort
open Go.Lib hiding intOf

/-- a process that was just made, with an error -/
def TkR (w : World) (r : Pc × Int) (e : Ending) (w' : World) : Prop := ∃ na nc fa fc, e = .returned (.tuple #[.agg #[.string (S r.1.id), .slice na r.1.nodes.length nc, .slice fa r.1.flows.length fc], .int .i64 r.2]) ∧ Po w' (.slice na r.1.nodes.length nc) (.slice fa r.1.flows.length fc) r.1 ∧ Below w.heap.size w w'
theorem ns_far {w : World} {v : Value} {l : List Nd} (h : Ns w v l) {b i : Nat} {u : Value} (hb : ∀ k, v.ownBlock = some k → k ≠ b) : Ns (w.setCell ⟨b, i, none⟩ u) v l := by
  obtain ⟨a, cap, rfl, hc, h⟩ := h
  refine ⟨a, cap, rfl, hc, h.imp id ?_⟩
  rintro ⟨g, off, rfl, hlt, hc⟩
  have hne : g ≠ b := hb g rfl
  have hh : (w.setCell ⟨b, i, none⟩ u).heap[g]? = w.heap[g]? := heap_setCell_other w _ g u hne
  have hc' : ∀ o, (w.setCell ⟨b, i, none⟩ u).cell? ⟨g, o, none⟩ = w.cell? ⟨g, o, none⟩ := fun o => by simp only [World.cell?, hh]
  exact ⟨g, off, rfl, by simpa using hlt, fun j hj => ⟨(hc' _).trans (hc j hj).c0, (hc' _).trans (hc j hj).c1, (hc' _).trans (hc j hj).c2, (hc' _).trans (hc j hj).c3, (hc' _).trans (hc j hj).c4, (hc' _).trans (hc j hj).c5, (hc' _).trans (hc j hj).c6⟩⟩
theorem fs_far {w : World} {v : Value} {l : List Fl} (h : Fs w v l) {b i : Nat} {u : Value} (hb : ∀ k, v.ownBlock = some k → k ≠ b) : Fs (w.setCell ⟨b, i, none⟩ u) v l := by
  obtain ⟨a, cap, rfl, hc, h⟩ := h
  refine ⟨a, cap, rfl, hc, h.imp id ?_⟩
  rintro ⟨g, off, rfl, hlt, hc⟩
  have hne : g ≠ b := hb g rfl
  have hh : (w.setCell ⟨b, i, none⟩ u).heap[g]? = w.heap[g]? := heap_setCell_other w _ g u hne
  have hc' : ∀ o, (w.setCell ⟨b, i, none⟩ u).cell? ⟨g, o, none⟩ = w.cell? ⟨g, o, none⟩ := fun o => by simp only [World.cell?, hh]
  exact ⟨g, off, rfl, by simpa using hlt, fun j hj => ⟨(hc' _).trans (hc j hj).c0, (hc' _).trans (hc j hj).c1, (hc' _).trans (hc j hj).c2⟩⟩
theorem set3 {w w' : World} {B b : Nat} {x y z : Value} (h : Below B w w') (hb : B ≤ b) : Below B w (((w'.setCell ⟨b, 0, none⟩ x).setCell ⟨b, 1, none⟩ y).setCell ⟨b, 2, none⟩ z) := ((h.setCell hb _).setCell hb _).setCell hb _

set_option maxRecDepth 100000 in
set_option maxHeartbeats 2000000 in
theorem Take_any (l : List UInt8) (hl : l.length ≤ 140737488355328) (w : World) : Calls Tryz.prog 10 #[.string (S l)] w (TkR w (tkP l)) := by
  have hss := S_size l
  by_cases hlong : 8192 < l.length
  · have HE : Hid (tkP l = (p0, 13)) := by show _ = _; unfold tkP; rw [if_pos hlong]
    have hlong' : (8192 : Int) < (l.length : Int) := by omega
    clear hlong hl
    go_enter Tryz.func10, Tryz.ntmps10
    go_wp2
    rw [HE.out]
    exact bodyPost_ret (v := .tuple #[.agg #[.string ⟨#[]⟩, .slice none 0 0, .slice none 0 0], .int .i64 13]) (by simp [results, Tryz.results10, go_sem]) rfl ⟨none, 0, none, 0, rfl, ⟨Ns.nil _, Fs.nil _⟩, (Below.refl _ w).alloc (Nat.le_refl _) _⟩
  · have hlong' : ¬ (8192 : Int) < (l.length : Int) := by omega
    have CR := read_any l (w.alloc (.cells #[.string ⟨#[]⟩, .slice none 0 0, .slice none 0 0] 25))
    rw [World.size_alloc] at CR
    obtain ⟨P, st, hp⟩ : ∃ P st, tProc ⟨l, 0, 0⟩ = (P, st) := ⟨_, _, rfl⟩
    obtain ⟨er, her⟩ : ∃ er, tEr st = er := ⟨_, rfl⟩
    have HT : Hid (∀ w1, Rd w1 (w.heap.size + 1) l 0 → w1.heap.size = w.heap.size + 1 + 1 → Tk (w1.alloc (.cells #[.pointer (some ⟨w.heap.size + 1, 0, none⟩), .int .i64 0] 54)) w1.heap.size (w.heap.size + 1) ⟨l, 0, 0⟩) := fun w1 hr hz => by
      refine ⟨?_, rd_of hr ?_ (by simp), by omega, by simp only; omega⟩
      · show (w1.heap.push _)[w1.heap.size]? = _
        exact Array.getElem?_push_size
      · exact (((Below.refl _ w1).alloc (Nat.le_refl _) (.cells #[.pointer (some ⟨w.heap.size + 1, 0, none⟩), .int .i64 0] 54)).block _ hr.lt)
    have HP : Hid (∀ W tb rb, Tk W tb rb ⟨l, 0, 0⟩ → Calls Tryz.prog 23 #[.pointer (some ⟨tb, 0, none⟩)] W fun e w' => ∃ na nc fa fc, e = .returned (.agg #[.string (S P.id), .slice na P.nodes.length nc, .slice fa P.flows.length fc]) ∧ Ns w' (.slice na P.nodes.length nc) P.nodes ∧ Fs w' (.slice fa P.flows.length fc) P.flows ∧ Tk w' tb rb st ∧ Ch (X2 tb rb) W w' ∧ ((∀ k, (Value.slice na P.nodes.length nc).ownBlock = some k → W.heap.size ≤ k) ∧ ∀ k, (Value.slice fa P.flows.length fc).ownBlock = some k → W.heap.size ≤ k)) := fun W tb rb h => by
      have := process_any h
      rwa [hp] at this
    have HQ : Hid (∀ W tb rb, Tk W tb rb st → Calls Tryz.prog 24 #[.pointer (some ⟨tb, 0, none⟩)] W fun e w' => e = .returned (.int .i64 (er : Int)) ∧ w' = W) := fun W tb rb h => by
      have := end_any h
      rwa [her] at this
    have HB0 : Hid (Below w.heap.size w (w.alloc (.cells #[.string ⟨#[]⟩, .slice none 0 0, .slice none 0 0] 25)) ∧ Bo 25 (w.alloc (.cells #[.string ⟨#[]⟩, .slice none 0 0, .slice none 0 0] 25)) w.heap.size #[.string ⟨#[]⟩, .slice none 0 0, .slice none 0 0]) := ⟨(Below.refl _ w).alloc (Nat.le_refl _) _, Array.getElem?_push_size⟩
    have HE : Hid (tkP l = if er ≠ 0 then (p0, (er : Int)) else (P, 0)) := by show _ = _; unfold tkP; rw [if_neg hlong, hp, her]
    have HF : Hid (∀ w1 w3, Below (w.heap.size + 1) (w.alloc (.cells #[.string ⟨#[]⟩, .slice none 0 0, .slice none 0 0] 25)) w1 → w1.heap.size = w.heap.size + 1 + 1 → Ch (X2 w1.heap.size (w.heap.size + 1)) (w1.alloc (.cells #[.pointer (some ⟨w.heap.size + 1, 0, none⟩), .int .i64 0] 54)) w3 → Below w.heap.size w w3 ∧ Bo 25 w3 w.heap.size #[.string ⟨#[]⟩, .slice none 0 0, .slice none 0 0] ∧ w.heap.size + 2 < w3.heap.size) := fun w1 w3 h1 hz h3 => by
      have hA : Below (w.heap.size + 1) (w.alloc (.cells #[.string ⟨#[]⟩, .slice none 0 0, .slice none 0 0] 25)) (w1.alloc (.cells #[.pointer (some ⟨w.heap.size + 1, 0, none⟩), .int .i64 0] 54)) := h1.alloc (by omega) _
      have hC : Below (w.heap.size + 1) (w.alloc (.cells #[.string ⟨#[]⟩, .slice none 0 0, .slice none 0 0] 25)) w3 := hA.trans (h3.below (by simp; omega) (fun k hk e => by rcases e with e | e <;> omega))
      refine ⟨HB0.out.1.trans (hC.mono (Nat.le_succ _)), ?_, ?_⟩
      · exact (hC.block w.heap.size (Nat.lt_succ_self _)).trans HB0.out.2
      · have := h3.size; rw [World.size_alloc] at this; omega
    clear hp her hlong hl
    have HG : Hid (∀ (w3 w4 : World) na nc fa fc x y z, (Po w3 (.slice na P.nodes.length nc) (.slice fa P.flows.length fc) P ∧ Below w.heap.size w w3 ∧ Bo 25 w3 w.heap.size #[.string ⟨#[]⟩, .slice none 0 0, .slice none 0 0] ∧ w.heap.size + 2 < w3.heap.size) → w4 = w3.alloc (.cells #[.string (S P.id), .slice na P.nodes.length nc, .slice fa P.flows.length fc] 25) → Below w.heap.size w (((w4.setCell ⟨w.heap.size, 0, none⟩ x).setCell ⟨w.heap.size, 1, none⟩ y).setCell ⟨w.heap.size, 2, none⟩ z)) := fun w3 w4 na nc fa fc x y z h h4 => by
      rw [h4]
      exact set3 (h.2.1.alloc h.2.1.size _) (Nat.le_refl _)
    by_cases h0 : er = 0
    · subst h0
      have HE2 : Hid (tkP l = (P, 0)) := HE.out.trans (by simp)
      clear HE
      go_enter Tryz.func10, Tryz.ntmps10
      go_wp2_with (first
        | (go_at_call 22; refine CR.mono ?_; rintro e w1 ⟨rfl, r1, b1, z1⟩; (have HZ1 : Hid (w1.heap.size = w.heap.size + 1 + 1) := z1); (have T1 := HT.out w1 r1 z1); (have CP := HP.out _ _ _ T1); (have H1 : Hid (∀ w3, Ch (X2 w1.heap.size (w.heap.size + 1)) (w1.alloc (.cells #[.pointer (some ⟨w.heap.size + 1, 0, none⟩), .int .i64 0] 54)) w3 → Below w.heap.size w w3 ∧ Bo 25 w3 w.heap.size #[.string ⟨#[]⟩, .slice none 0 0, .slice none 0 0] ∧ w.heap.size + 2 < w3.heap.size) := fun w3 h3 => HF.out w1 w3 b1 z1 h3); clear r1 b1 z1 T1 CR HF HT HP)
        | (go_at_call 23; refine CP.mono ?_; rintro e w3 ⟨na, nc, fa, fc, rfl, n3, f3, t3, c3, o3⟩; (have O3 : Hid ((∀ k, (Value.slice na P.nodes.length nc).ownBlock = some k → w.heap.size < k) ∧ ∀ k, (Value.slice fa P.flows.length fc).ownBlock = some k → w.heap.size < k) := ⟨fun k hk => Nat.lt_of_lt_of_le (by rw [World.size_alloc]; have := HZ1.out; omega) (o3.1 k hk), fun k hk => Nat.lt_of_lt_of_le (by rw [World.size_alloc]; have := HZ1.out; omega) (o3.2 k hk)⟩); clear o3; (have N3 : Hid (Po w3 (.slice na P.nodes.length nc) (.slice fa P.flows.length fc) P ∧ Below w.heap.size w w3 ∧ Bo 25 w3 w.heap.size #[.string ⟨#[]⟩, .slice none 0 0, .slice none 0 0] ∧ w.heap.size + 2 < w3.heap.size) := ⟨⟨n3, f3⟩, H1.out w3 c3⟩); (have CE := HQ.out (w3.alloc (.cells #[.string (S P.id), .slice na P.nodes.length nc, .slice fa P.flows.length fc] 25)) _ _ (t3.below ((Below.refl _ w3).alloc (Nat.le_refl _) _))); clear n3 f3 t3 c3 CP H1 HQ)
        | (go_at_call 24; refine CE.mono ?_; rintro e w4 ⟨rfl, hw4⟩; clear CE; (have lt3 := N3.out.2.2.1.lt); (have y0 : w4.cell? ⟨w.heap.size, 0, none⟩ = some (.string ⟨#[]⟩) := by rw [hw4]; exact (((Below.refl _ w3).alloc (Nat.le_refl _) _).cell (p := ⟨w.heap.size, 0, none⟩) lt3).trans (N3.out.2.2.1.c 0)); (have z0 : w4.frozen? ⟨w.heap.size, 0, none⟩ = false := by rw [hw4]; exact (((Below.refl _ w3).alloc (Nat.le_refl _) _).frozen (p := ⟨w.heap.size, 0, none⟩) lt3).trans (N3.out.2.2.1.f 0)); (have g0 : w4.cell? ⟨w3.heap.size, 0, none⟩ = some (.string (S P.id)) := by rw [hw4]; exact World.cell?_alloc_new _ _ _ _); (have y1 : w4.cell? ⟨w.heap.size, 1, none⟩ = some (.slice none 0 0) := by rw [hw4]; exact (((Below.refl _ w3).alloc (Nat.le_refl _) _).cell (p := ⟨w.heap.size, 1, none⟩) lt3).trans (N3.out.2.2.1.c 1)); (have z1 : w4.frozen? ⟨w.heap.size, 1, none⟩ = false := by rw [hw4]; exact (((Below.refl _ w3).alloc (Nat.le_refl _) _).frozen (p := ⟨w.heap.size, 1, none⟩) lt3).trans (N3.out.2.2.1.f 1)); (have g1 : w4.cell? ⟨w3.heap.size, 1, none⟩ = some (.slice na P.nodes.length nc) := by rw [hw4]; exact World.cell?_alloc_new _ _ _ _); (have y2 : w4.cell? ⟨w.heap.size, 2, none⟩ = some (.slice none 0 0) := by rw [hw4]; exact (((Below.refl _ w3).alloc (Nat.le_refl _) _).cell (p := ⟨w.heap.size, 2, none⟩) lt3).trans (N3.out.2.2.1.c 2)); (have z2 : w4.frozen? ⟨w.heap.size, 2, none⟩ = false := by rw [hw4]; exact (((Below.refl _ w3).alloc (Nat.le_refl _) _).frozen (p := ⟨w.heap.size, 2, none⟩) lt3).trans (N3.out.2.2.1.f 2)); (have g2 : w4.cell? ⟨w3.heap.size, 2, none⟩ = some (.slice fa P.flows.length fc) := by rw [hw4]; exact World.cell?_alloc_new _ _ _ _); (have HW4 : Hid (w4 = w3.alloc (.cells #[.string (S P.id), .slice na P.nodes.length nc, .slice fa P.flows.length fc] 25)) := hw4); (have ne3 : ¬ w3.heap.size = w.heap.size := by omega); (have ne4 : ¬ w.heap.size = w3.heap.size := by omega); clear hw4))
      rw [HE2.out]
      refine bodyPost_ret (v := .tuple #[.agg #[.string (S P.id), .slice na P.nodes.length nc, .slice fa P.flows.length fc], .int .i64 0]) (by simp [results, Tryz.results10, go_sem, y0, y1, y2]) rfl ⟨na, nc, fa, fc, rfl, ?_, HG.out w3 w4 na nc fa fc _ _ _ N3.out HW4.out⟩
      have hpo := N3.out.1.up ((Below.refl _ w3).alloc (Nat.le_refl _) (.cells #[.string (S P.id), .slice na P.nodes.length nc, .slice fa P.flows.length fc] 25))
      rw [← HW4.out] at hpo
      exact ⟨ns_far (ns_far (ns_far hpo.ns (fun k hk => by have := O3.out.1 k hk; omega)) (fun k hk => by have := O3.out.1 k hk; omega)) (fun k hk => by have := O3.out.1 k hk; omega), fs_far (fs_far (fs_far hpo.fs (fun k hk => by have := O3.out.2 k hk; omega)) (fun k hk => by have := O3.out.2 k hk; omega)) (fun k hk => by have := O3.out.2 k hk; omega)⟩
    · have h0' : ¬ (er : Int) = 0 := by omega
      have h0b : ((er : Int) != 0) = true := by rw [bne_iff_ne]; exact h0'
      have HE2 : Hid (tkP l = (p0, (er : Int))) := HE.out.trans (by rw [if_pos h0])
      clear HE
      go_enter Tryz.func10, Tryz.ntmps10
      go_wp2_with (first
        | (go_at_call 22; refine CR.mono ?_; rintro e w1 ⟨rfl, r1, b1, z1⟩; (have HZ1 : Hid (w1.heap.size = w.heap.size + 1 + 1) := z1); (have T1 := HT.out w1 r1 z1); (have CP := HP.out _ _ _ T1); (have H1 : Hid (∀ w3, Ch (X2 w1.heap.size (w.heap.size + 1)) (w1.alloc (.cells #[.pointer (some ⟨w.heap.size + 1, 0, none⟩), .int .i64 0] 54)) w3 → Below w.heap.size w w3 ∧ Bo 25 w3 w.heap.size #[.string ⟨#[]⟩, .slice none 0 0, .slice none 0 0] ∧ w.heap.size + 2 < w3.heap.size) := fun w3 h3 => HF.out w1 w3 b1 z1 h3); clear r1 b1 z1 T1 CR HF HT HP)
        | (go_at_call 23; refine CP.mono ?_; rintro e w3 ⟨na, nc, fa, fc, rfl, n3, f3, t3, c3, o3⟩; (have O3 : Hid ((∀ k, (Value.slice na P.nodes.length nc).ownBlock = some k → w.heap.size < k) ∧ ∀ k, (Value.slice fa P.flows.length fc).ownBlock = some k → w.heap.size < k) := ⟨fun k hk => Nat.lt_of_lt_of_le (by rw [World.size_alloc]; have := HZ1.out; omega) (o3.1 k hk), fun k hk => Nat.lt_of_lt_of_le (by rw [World.size_alloc]; have := HZ1.out; omega) (o3.2 k hk)⟩); clear o3; (have N3 : Hid (Po w3 (.slice na P.nodes.length nc) (.slice fa P.flows.length fc) P ∧ Below w.heap.size w w3 ∧ Bo 25 w3 w.heap.size #[.string ⟨#[]⟩, .slice none 0 0, .slice none 0 0] ∧ w.heap.size + 2 < w3.heap.size) := ⟨⟨n3, f3⟩, H1.out w3 c3⟩); (have CE := HQ.out (w3.alloc (.cells #[.string (S P.id), .slice na P.nodes.length nc, .slice fa P.flows.length fc] 25)) _ _ (t3.below ((Below.refl _ w3).alloc (Nat.le_refl _) _))); clear n3 f3 t3 c3 CP H1 HQ)
        | (go_at_call 24; refine CE.mono ?_; rintro e w4 ⟨rfl, hw4⟩; clear CE; (have lt3 := N3.out.2.2.1.lt); (have y0 : w4.cell? ⟨w.heap.size, 0, none⟩ = some (.string ⟨#[]⟩) := by rw [hw4]; exact (((Below.refl _ w3).alloc (Nat.le_refl _) _).cell (p := ⟨w.heap.size, 0, none⟩) lt3).trans (N3.out.2.2.1.c 0)); (have z0 : w4.frozen? ⟨w.heap.size, 0, none⟩ = false := by rw [hw4]; exact (((Below.refl _ w3).alloc (Nat.le_refl _) _).frozen (p := ⟨w.heap.size, 0, none⟩) lt3).trans (N3.out.2.2.1.f 0)); (have g0 : w4.cell? ⟨w3.heap.size, 0, none⟩ = some (.string (S P.id)) := by rw [hw4]; exact World.cell?_alloc_new _ _ _ _); (have y1 : w4.cell? ⟨w.heap.size, 1, none⟩ = some (.slice none 0 0) := by rw [hw4]; exact (((Below.refl _ w3).alloc (Nat.le_refl _) _).cell (p := ⟨w.heap.size, 1, none⟩) lt3).trans (N3.out.2.2.1.c 1)); (have z1 : w4.frozen? ⟨w.heap.size, 1, none⟩ = false := by rw [hw4]; exact (((Below.refl _ w3).alloc (Nat.le_refl _) _).frozen (p := ⟨w.heap.size, 1, none⟩) lt3).trans (N3.out.2.2.1.f 1)); (have g1 : w4.cell? ⟨w3.heap.size, 1, none⟩ = some (.slice na P.nodes.length nc) := by rw [hw4]; exact World.cell?_alloc_new _ _ _ _); (have y2 : w4.cell? ⟨w.heap.size, 2, none⟩ = some (.slice none 0 0) := by rw [hw4]; exact (((Below.refl _ w3).alloc (Nat.le_refl _) _).cell (p := ⟨w.heap.size, 2, none⟩) lt3).trans (N3.out.2.2.1.c 2)); (have z2 : w4.frozen? ⟨w.heap.size, 2, none⟩ = false := by rw [hw4]; exact (((Below.refl _ w3).alloc (Nat.le_refl _) _).frozen (p := ⟨w.heap.size, 2, none⟩) lt3).trans (N3.out.2.2.1.f 2)); (have g2 : w4.cell? ⟨w3.heap.size, 2, none⟩ = some (.slice fa P.flows.length fc) := by rw [hw4]; exact World.cell?_alloc_new _ _ _ _); (have HW4 : Hid (w4 = w3.alloc (.cells #[.string (S P.id), .slice na P.nodes.length nc, .slice fa P.flows.length fc] 25)) := hw4); (have ne3 : ¬ w3.heap.size = w.heap.size := by omega); (have ne4 : ¬ w.heap.size = w3.heap.size := by omega); clear hw4))
      rw [HE2.out]
      exact bodyPost_ret (v := .tuple #[.agg #[.string ⟨#[]⟩, .slice none 0 0, .slice none 0 0], .int .i64 (er : Int)]) (by simp [results, Tryz.results10, go_sem, y0, y1, y2]) rfl ⟨none, 0, none, 0, rfl, ⟨Ns.nil _, Fs.nil _⟩, HG.out w3 w4 na nc fa fc _ _ _ N3.out HW4.out⟩
end Go.Proofs.YtlmdoiagjepmbaaGreatDoor.m11

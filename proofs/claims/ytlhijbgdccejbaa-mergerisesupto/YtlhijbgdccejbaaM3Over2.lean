/-
  Over, and the law's own range over rows (over).
-/
import Derived.Test.YtlhijbgdccejbaaM3Over
import Derived.Deep.DeepAppendWide
namespace Go.Proofs.Ytlhijbgdccejbaa
open Go.RowKit Go.Shelf Go.Sort
open Go.Lib hiding intOf


theorem row_cut {w : World} {base : Nat} {e : TypeId} {a : Option Addr} {n c : Nat} {xs : List Value} (h : w.ownsRow base e 1 (.slice a n c) n xs) {i : Nat} (hi : i ≤ n) : w.ownsRow base e 1 (.slice a i c) i (xs.take i) := by
  refine ⟨by have := h.1; simp; omega, ?_⟩
  rcases h.2 with ⟨e1, h0⟩ | ⟨g, cap, cur, e1, hb, hg, hnc, hcm, hcs, ht⟩
  · cases e1
    exact .inl ⟨by rw [show i = 0 by omega], by omega⟩
  · cases e1
    refine .inr ⟨g, c, cur, rfl, hb, hg, by omega, hcm, hcs, ?_⟩
    rw [← ht, List.take_take]
    congr 1
    omega

/-- what stands when both lists have been cloned -/
def OvQ (w : World) (l : List Ent) : Exit → Act → World → Prop
  | .normal, a, W => (∃ x0 x1 x4 x5 x6 x7 x8 x9 x10 x11 x12 x13 x14 x15 x16 x17 x18 x19, a = { tmps := #[x0, x1, .pointer (some ⟨w.heap.size, 0, none⟩), .pointer (some ⟨w.heap.size + 1, 0, none⟩), x4, x5, x6, x7, x8, x9, x10, x11, x12, x13, x14, x15, x16, x17, x18, x19], defers := [] }) ∧ ∃ kv vv, Bx W w.heap.size kv 45 ∧ Bx W (w.heap.size + 1) vv 46 ∧ KV W (w.heap.size + 1 + 1) kv vv l ∧ Below w.heap.size w W
  | _, _, _ => False

set_option maxRecDepth 100000 in
set_option maxHeartbeats 4000000 in
theorem Over_any {w : World} {b1 b2 n m : Nat} {kv vv : Value} {cs ds : List Value} {l : List Ent} (hk : w.ownsRow b1 9 1 kv n cs) (hv : w.ownsRow b2 3 1 vv m ds) (h1 : kcells l = cs.take l.length) (h2 : vcells l = ds.take l.length) (hl : l.length = min n m) (hn : n * 16 ≤ 211106232528000) (hm : m * 8 ≤ 211106232528000) :
    Calls Try.prog 19 #[kv, vv] w fun e w' => ∃ f X, e = .returned f ∧ Sq w' f l X ∧ (∀ k, X k → w.heap.size ≤ k) ∧ Below w.heap.size w w' := by
  have hmf : ∀ (fn : Fn) (first cap : Array Value) (w : World), (Instr.makeFunc fn first cap).run Try.prog w = .ok (.func fn first cap) w := fun _ _ _ _ => rfl
  obtain ⟨ka, kc, rfl, -, hnc, hkc⟩ := row_slice hk
  obtain ⟨va, vc, rfl, -, hmc, hvc⟩ := row_slice hv
  have hmin : min (n : Int) (m : Int) = (l.length : Int) := by omega
  obtain ⟨W2, hW2⟩ : ∃ W2, W2 = (w.alloc (.cells #[.slice ka n kc] 45)).alloc (.cells #[.slice va m vc] 46) := ⟨_, rfl⟩
  have hs2 : W2.heap.size = w.heap.size + 1 + 1 := by rw [hW2]; simp
  have hB2 : Below w.heap.size w W2 := by rw [hW2]; exact ((Below.refl _ w).alloc (Nat.le_refl _) _).alloc (by simp) _
  have bk2 : Bx W2 w.heap.size (.slice ka n kc) 45 := by rw [hW2]; exact (Bx.new w _ _).alloc _
  have bv2 : Bx W2 (w.heap.size + 1) (.slice va m vc) 46 := by
    rw [hW2]
    have := Bx.new (w.alloc (.cells #[.slice ka n kc] 45)) (.slice va m vc) 46
    rwa [World.size_alloc] at this
  have c1 := bk2.cell
  have c2 := bv2.cell
  have hk2 : W2.ownsRow b1 9 1 (.slice ka l.length kc) l.length (kcells l) := by
    have := (show Ch (fun _ => False) w W2 from Ch.of_below hB2).row (row_cut hk (i := l.length) (by omega)) (fun _ _ => id)
    rwa [← h1] at this
  have hv2 : W2.ownsRow b2 3 1 (.slice va l.length vc) l.length (vcells l) := by
    have := (show Ch (fun _ => False) w W2 from Ch.of_below hB2).row (row_cut hv (i := l.length) (by omega)) (fun _ _ => id)
    rwa [← h2] at this
  have hlk : (l.length : Int) ≤ (kc : Int) := by omega
  have hlv : (l.length : Int) ≤ (vc : Int) := by omega
  have hlk' : l.length ≤ kc := by omega
  have hlv' : l.length ≤ vc := by omega
  have bn1 : l.length * 16 ≤ 211106232528000 := by omega
  have bn2 : l.length * 8 ≤ 211106232528000 := by omega
  have HK : Hid (W2.ownsRow b1 9 1 (.slice ka l.length kc) l.length (kcells l)) := hk2
  have HV : Hid (W2.ownsRow b2 3 1 (.slice va l.length vc) l.length (vcells l)) := hv2
  have fin : Hid (∀ (W : World) (kv vv : Value), Bx W w.heap.size kv 45 → Bx W (w.heap.size + 1) vv 46 → KV W (w.heap.size + 1 + 1) kv vv l → Below w.heap.size w W → ∃ X, Sq W (.func (.func 30) #[] #[.pointer (some ⟨w.heap.size, 0, none⟩), .pointer (some ⟨w.heap.size + 1, 0, none⟩)]) l X ∧ (∀ k, X k → w.heap.size ≤ k)) := fun W kv vv a1 a2 a3 a4 => by
    refine ⟨_, over1_sq a1 a2 a3 (by omega), ?_⟩
    rintro k (rfl | rfl | h | h)
    · exact Nat.le_refl _
    · omega
    · have := (row_obj a3.1 h).1; omega
    · have := (row_obj a3.2 h).1; omega
  clear hk hv h1 h2 hk2 hv2 hl
  go_enter Try.func19, Try.ntmps19
  go_wp2_with fail
  rw [← hW2]
  clear hW2
  refine Code.wp_mono (Q := OvQ w l) ?_ ?reg
  case reg =>
    go_region_with (first
      | (go_at_call 28; refine (cloneStr_any (w := W2.drew) (base := b1) HK.out (kcells_one l) bn1).mono ?_; rintro e w3 ⟨k', rfl, hk3, hB3⟩; obtain ⟨ka', kc', rfl, -⟩ := row_slice hk3; have HK3 : Hid _ := hk3; clear hk3; have d1 := Bx.below (w := W2.drew) bk2 hB3 bk2.lt; have d2 := Bx.below (w := W2.drew) bv2 hB3 bv2.lt; have e1 := d1.cell; have e2 := d2.cell)
      | (go_at_call 29; refine (cloneInt_any (base := b2) ((show Ch (fun _ => False) W2 w3 from Ch.of_below ⟨hB3.os, hB3.tape, hB3.output, hB3.size, hB3.block⟩).row HV.out (fun _ _ => id)) (vcells_one l) bn2).mono ?_; rintro e w4 ⟨v', rfl, hv4, hB4⟩; obtain ⟨va', vc', rfl, -⟩ := row_slice hv4; have HV4 : Hid _ := hv4; clear hv4; have d3 := d1.below hB4 d1.lt; have d4 := d2.below hB4 d2.lt; have e3 := d3.cell; have e4 := d3.fro; have d5 : ∀ u, Bx (w4.setCell ⟨w.heap.size, 0, none⟩ u) (w.heap.size + 1) _ _ := fun u => d4.ch ((Ch.refl (fun k => k = w.heap.size) w4).setCell ⟨w.heap.size, 0, none⟩ u (fun _ => rfl)) (by omega); have e5 := fun u => (d5 u).cell; have e6 := fun u => (d5 u).fro))
    all_goals
      have hB3' : Below W2.heap.size W2 w3 := ⟨hB3.os, hB3.tape, hB3.output, hB3.size, hB3.block⟩
      have hk4 := (show Ch (fun _ => False) w3 w4 from Ch.of_below hB4).row HK3.out (fun _ _ => id)
      have hv4 := HV4.out
      have hs3 := hB3'.size
      have hc5 : Ch (fun k => k = w.heap.size ∨ k = w.heap.size + 1) w4 ((w4.setCell ⟨w.heap.size, 0, none⟩ (.slice ka' l.length kc')).setCell ⟨w.heap.size + 1, 0, none⟩ (.slice va' l.length vc')) := ((Ch.refl _ w4).setCell _ _ (fun _ => .inl rfl)).setCell _ _ (fun _ => .inr rfl)
      have hlow : ∀ {B : Nat} {e : TypeId} {v : Value} {xs : List Value}, w4.ownsRow B e 1 v l.length xs → W2.heap.size ≤ B → World.ownsRow ((w4.setCell ⟨w.heap.size, 0, none⟩ (.slice ka' l.length kc')).setCell ⟨w.heap.size + 1, 0, none⟩ (.slice va' l.length vc')) (w.heap.size + 1 + 1) e 1 v l.length xs := fun h hB => row_low (hc5.row h (fun k hk hx => by have := (row_obj h hk).1; omega)) (by omega)
      refine ⟨⟨_, _, _, _, _, _, _, _, _, _, _, _, _, _, _, _, _, _, rfl⟩, _, _, (one0 d3 _).ch ((Ch.refl (fun k => k = w.heap.size + 1) _).setCell _ _ (fun _ => rfl)) (by omega), one0 (d5 _) _, ⟨hlow hk4 (Nat.le_refl _), hlow hv4 hs3⟩, ?_⟩
      exact ((hB2.trans (hB3'.mono (by omega))).trans (hB4.mono (by omega))).trans (hc5.below (by have := hB4.size; omega) (fun k hk hx => by omega))
  · rintro e a W hq
    cases e with
    | normal =>
      obtain ⟨⟨x0, x1, x4, x5, x6, x7, x8, x9, x10, x11, x12, x13, x14, x15, x16, x17, x18, x19, rfl⟩, kv, vv, q1, q2, q3, q4⟩ := hq
      have HF : Hid _ := fin.out W kv vv q1 q2 q3 q4
      clear q1 q2 q3
      go_wp2
      go_ret
      obtain ⟨X, f1, f2⟩ := HF.out
      exact ⟨_, X, rfl, f1, f2, q4⟩
    | _ => exact hq.elim
end Go.Proofs.Ytlhijbgdccejbaa

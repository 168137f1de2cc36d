/-
  Package seglog's settle.
-/
import Derived.Test.YteifkkceldlfnaaGreatDoorG6Drop
import Derived.Test.YteifkkceldlfnaaGreatDoorG6Lod3
namespace Go.Proofs.YteifkkceldlfnaaGreatDoor
open Go.RowKit Go.Shelf Go.Sort
open Go.Lib hiding intOf

/-- what settle comes to: the file k is cut to sz bytes, if bytes are behind them, and synced -/
def stl (st : Ab) (k : ByteArray) (sz : Nat) (tn : Bool) : Int × Ab :=
  if tn = true then (if (aCut st k (sz : Int)).1 ≠ 0 then aCut st k (sz : Int) else aSync (aCut st k (sz : Int)).2 k) else aSync st k
theorem Did.also {w w1 w2 : World} {B d : Nat} {es es1 : List Le} {mo mo1 : Option Nat} {st : Ab} (hc : Ch (foot d mo es) w w1) (hf : ∀ x, foot d mo1 es1 x → foot d mo es x ∨ w.heap.size ≤ x) (h : Did w1 B d es1 mo1 w2 st) : Did w B d es mo w2 st := by
  obtain ⟨es2, mo2, L, e, C, f⟩ := h
  refine ⟨es2, mo2, L, e, hc.joinG C (fun k hk h1 => (hf k h1).elim id (fun h2 => by omega)), fun x hx => ?_⟩
  rcases f x hx with h1 | h1
  · exact hf x h1
  · exact .inr (Nat.le_trans hc.size h1)
set_option maxHeartbeats 2000000 in
set_option maxRecDepth 100000 in
theorem settle_any {w : World} {B d : Nat} {es : List Le} {p : Int} {off : Bool} {mo : Option Nat} (h : Ld w B d es p off mo) {g : Nat} {k : ByteArray} {sz : Nat} (c0 : w.cell? ⟨g, 0, none⟩ = some (.string k)) (c2 : w.cell? ⟨g, 2, none⟩ = some (.int .i64 (sz : Int))) (hg : ¬ foot d mo es g) (_hgl : g < w.heap.size) (hz : k.size ≤ 9223372036854775807) (tn : Bool) :
    Calls Tryz.prog 33 #[.pointer (some ⟨d, 0, none⟩), .pointer (some ⟨g, 0, none⟩), .bool tn] w fun e w' => e = .returned (.int .i64 (stl (fil es, p, off) k sz tn).1) ∧ Did w B d es mo w' (stl (fil es, p, off) k sz tn).2 := by
  cases tn with
  | false =>
    have hS := Sync_any h k hz
    show Calls Tryz.prog _ _ w fun e w' => e = .returned (.int .i64 (aSync (fil es, p, off) k).1) ∧ Did w B d es mo w' (aSync (fil es, p, off) k).2
    generalize aSync (fil es, p, off) k = r at *
    clear h
    go_enter Tryz.func33, Tryz.ntmps33
    go_wp2_with (go_at_call 72; refine hS.mono ?_; rintro e w3 ⟨rfl, D3⟩; have H3 : Hid _ := D3; clear D3)
    go_ret
    exact ⟨rfl, H3.out⟩
  | true =>
    obtain ⟨no, st2, hcut⟩ : ∃ no st2, aCut (fil es, p, off) k (sz : Int) = (no, st2) := ⟨_, _, rfl⟩
    have HC : Hid (∀ q, Calls Tryz.prog 71 #[.pointer (some ⟨d, 0, none⟩), .string k, .int .i64 (sz : Int)] (w.drewN q) fun e w' => e = .returned (.int .i64 no) ∧ Did w B d es mo w' st2) := fun q => by
      have := Cut_any (h.below (below_drewN' (Below.refl _ w) q)) k (sz : Int) hz
      rw [hcut] at this
      exact this.mono fun _ _ x => ⟨x.1, x.2.drawn⟩
    have HK : Hid (∀ w', Did w B d es mo w' st2 → w'.cell? ⟨g, 0, none⟩ = some (.string k) ∧ w'.cell? ⟨g, 2, none⟩ = some (.int .i64 (sz : Int))) := fun w' D => by
      obtain ⟨_, _, _, _, C, _⟩ := D
      exact ⟨C.cell c0 hg, C.cell c2 hg⟩
    have HS : Hid (∀ w', Did w B d es mo w' st2 → Calls Tryz.prog 72 #[.pointer (some ⟨d, 0, none⟩), .string k] w' fun e w4 => e = .returned (.int .i64 (aSync st2 k).1) ∧ Did w B d es mo w4 (aSync st2 k).2) := fun w' D => by
      obtain ⟨es1, mo1, L1, e1, C1, f1⟩ := D
      have := Sync_any L1 k hz
      rw [e1] at this
      exact this.mono fun _ _ x => ⟨x.1, Did.also C1 f1 x.2⟩
    by_cases hno : no = 0
    · subst hno
      have HR : Hid (stl (fil es, p, off) k sz true = aSync st2 k) := by show _ = _; unfold stl; rw [hcut]; simp
      rw [HR.out]
      generalize aSync st2 k = r at *
      clear h hcut
      go_enter Tryz.func33, Tryz.ntmps33
      go_wp2_with fail
      go_region_held3 (fun w' => w'.cell? ⟨g, 0, none⟩ = some (.string k) ∧ w'.cell? ⟨g, 2, none⟩ = some (.int .i64 (sz : Int)))
        (first | go_keep | exact ⟨k0, k1⟩)
        (first
          | (go_at_call 71; refine (HC.out _).mono ?_; rintro e w3 ⟨rfl, D3⟩; obtain ⟨k0, k1⟩ := HK.out w3 D3; have hS := HS.out w3 D3; clear D3))
      go_wp2_with (go_at_call 72; refine hS.mono ?_; rintro e w4 ⟨rfl, D4⟩; have H4 : Hid _ := D4; clear D4)
      go_ret
      exact ⟨rfl, H4.out⟩
    · have HR : Hid (stl (fil es, p, off) k sz true = (no, st2)) := by show _ = _; unfold stl; rw [hcut]; simp [hno]
      rw [HR.out]
      have hbe : (no != 0) = true := by simpa using hno
      clear h hcut
      go_enter Tryz.func33, Tryz.ntmps33
      go_wp2_with fail
      go_region_held3 (fun w' => w'.cell? ⟨g, 0, none⟩ = some (.string k) ∧ w'.cell? ⟨g, 2, none⟩ = some (.int .i64 (sz : Int)))
        (first | go_keep | exact ⟨k0, k1⟩)
        (first
          | (go_at_call 71; refine (HC.out _).mono ?_; rintro e w3 ⟨rfl, D3⟩; obtain ⟨k0, k1⟩ := HK.out w3 D3; have H3 : Hid _ := D3; clear D3))
      go_wp2
      go_ret
      exact ⟨rfl, H3.out⟩
end Go.Proofs.YteifkkceldlfnaaGreatDoor

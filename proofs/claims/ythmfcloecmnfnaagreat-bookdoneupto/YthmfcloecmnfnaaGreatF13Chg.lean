/-
  Package fold's change: the first one that is so is changed in place.
-/
import Derived.Test.YthmfcloecmnfnaaGreatF13Ap1
namespace Go.Proofs.YthmfcloecmnfnaaGreat.f13
open Go.RowKit Go.Shelf Go.Sort
open Go.Lib hiding intOf

/-- what change comes to: nothing, or what by does to the first one that is so -/
def CgTk (w : World) (q : Tk → Bool) (l : List Tk) (R : World → Nat → World → Prop) (w' : World) : Prop := match l.findIdx? q with
  | none => Below w.heap.size w w'
  | some i => ∃ W, Below w.heap.size w W ∧ R W i w'
set_option maxHeartbeats 1000000 in
set_option maxRecDepth 100000 in
theorem changeTk_any {X : Nat → Prop} {w : World} {v : Value} {l : List Tk} {kf kb : Nat} {caps capb : Array Value} (q : Tk → Bool) (R : World → Nat → World → Prop) (hv : Rr 6 Tk.c w v l) (hn : l.length ≤ 4611686018427387904) (ek : Ent0 kf) (hq : ∀ x ∈ l, Say X w kf caps #[.agg (Tk.c x).toArray] (q x)) (eb : Ent0 kb)
    (hb : ∀ (W : World) (i b off cap : Nat), Below w.heap.size w W → i < l.length → v = .slice (some ⟨b, off, none⟩) l.length cap → Calls Tryz.prog kb (#[.pointer (some ⟨b, off + i * 6, none⟩)] ++ capb) W fun e W' => e = .returned (.tuple #[]) ∧ R W i W') :
    Calls Tryz.prog 109 #[v, .func (.func kf) #[] caps, .func (.func kb) #[] capb] w fun e w' => e = .returned (.tuple #[]) ∧ CgTk w q l R w' := by
  have CI := indexTk_any q hv hn ek hq
  have HB : Hid _ := hb
  have hv0 := hv
  obtain ⟨a, cap, rfl, -⟩ := hv
  unfold Ent0 at eb
  clear hq ek hb
  cases hF : l.findIdx? q with
  | none =>
    have e0 : fix q l = -1 := by unfold fix; rw [hF]
    rw [e0] at CI
    have hneg : ¬ (0 : Int) ≤ -1 := by omega
    have HF : Hid _ := hF
    clear hF e0 HB hv0
    go_enter Tryz.func109, Tryz.ntmps109
    go_wp2_with (go_at_call 143; refine CI.mono ?_; rintro e w1 ⟨rfl, b1⟩; (have B1 : Hid (Below w.heap.size w w1) := b1); clear b1 CI)
    go_end0
    refine ⟨rfl, ?_⟩
    unfold CgTk
    rw [HF.out]
    exact B1.out
  | some i =>
    have e0 : fix q l = (i : Int) := by unfold fix; rw [hF]
    have hi := (List.findIdx?_eq_some_iff_getElem.1 hF).1
    obtain ⟨b, off, cap', hsl, -, -, -⟩ := hv0.at hi
    obtain ⟨rfl, rfl⟩ : a = some ⟨b, off, none⟩ ∧ cap = cap' := by injection hsl with e1 _ e2; exact ⟨e1, e2⟩
    rw [e0] at CI
    have hi0 : (0 : Int) ≤ (i : Int) := by omega
    have hil : (i : Int) < (l.length : Int) := by omega
    have HF : Hid _ := hF
    clear hF e0 hsl hv0
    go_enter Tryz.func109, Tryz.ntmps109
    go_wp2_with (go_at_call 143; refine CI.mono ?_; rintro e w1 ⟨rfl, b1⟩; (have B1 : Hid (Below w.heap.size w w1) := b1); (have CB := HB.out w1 i b off cap b1 hi rfl); clear b1 CI HB)
    refine CB.mono ?_
    rintro e w2 ⟨rfl, hR⟩
    have HR : Hid _ := hR
    clear hR CB
    go_wp2
    go_end0
    refine ⟨rfl, ?_⟩
    unfold CgTk
    rw [HF.out]
    exact ⟨w1, B1.out, HR.out⟩

/-- what change comes to: nothing, or what by does to the first one that is so -/
def CgJb (w : World) (q : Jb → Bool) (l : List Jb) (R : World → Nat → World → Prop) (w' : World) : Prop := match l.findIdx? q with
  | none => Below w.heap.size w w'
  | some i => ∃ W, Below w.heap.size w W ∧ R W i w'
set_option maxHeartbeats 1000000 in
set_option maxRecDepth 100000 in
theorem changeJb_any {X : Nat → Prop} {w : World} {v : Value} {l : List Jb} {kf kb : Nat} {caps capb : Array Value} (q : Jb → Bool) (R : World → Nat → World → Prop) (hv : Rr 6 Jb.c w v l) (hn : l.length ≤ 4611686018427387904) (ek : Ent0 kf) (hq : ∀ x ∈ l, Say X w kf caps #[.agg (Jb.c x).toArray] (q x)) (eb : Ent0 kb)
    (hb : ∀ (W : World) (i b off cap : Nat), Below w.heap.size w W → i < l.length → v = .slice (some ⟨b, off, none⟩) l.length cap → Calls Tryz.prog kb (#[.pointer (some ⟨b, off + i * 6, none⟩)] ++ capb) W fun e W' => e = .returned (.tuple #[]) ∧ R W i W') :
    Calls Tryz.prog 94 #[v, .func (.func kf) #[] caps, .func (.func kb) #[] capb] w fun e w' => e = .returned (.tuple #[]) ∧ CgJb w q l R w' := by
  have CI := indexJb_any q hv hn ek hq
  have HB : Hid _ := hb
  have hv0 := hv
  obtain ⟨a, cap, rfl, -⟩ := hv
  unfold Ent0 at eb
  clear hq ek hb
  cases hF : l.findIdx? q with
  | none =>
    have e0 : fix q l = -1 := by unfold fix; rw [hF]
    rw [e0] at CI
    have hneg : ¬ (0 : Int) ≤ -1 := by omega
    have HF : Hid _ := hF
    clear hF e0 HB hv0
    go_enter Tryz.func94, Tryz.ntmps94
    go_wp2_with (go_at_call 79; refine CI.mono ?_; rintro e w1 ⟨rfl, b1⟩; (have B1 : Hid (Below w.heap.size w w1) := b1); clear b1 CI)
    go_end0
    refine ⟨rfl, ?_⟩
    unfold CgJb
    rw [HF.out]
    exact B1.out
  | some i =>
    have e0 : fix q l = (i : Int) := by unfold fix; rw [hF]
    have hi := (List.findIdx?_eq_some_iff_getElem.1 hF).1
    obtain ⟨b, off, cap', hsl, -, -, -⟩ := hv0.at hi
    obtain ⟨rfl, rfl⟩ : a = some ⟨b, off, none⟩ ∧ cap = cap' := by injection hsl with e1 _ e2; exact ⟨e1, e2⟩
    rw [e0] at CI
    have hi0 : (0 : Int) ≤ (i : Int) := by omega
    have hil : (i : Int) < (l.length : Int) := by omega
    have HF : Hid _ := hF
    clear hF e0 hsl hv0
    go_enter Tryz.func94, Tryz.ntmps94
    go_wp2_with (go_at_call 79; refine CI.mono ?_; rintro e w1 ⟨rfl, b1⟩; (have B1 : Hid (Below w.heap.size w w1) := b1); (have CB := HB.out w1 i b off cap b1 hi rfl); clear b1 CI HB)
    refine CB.mono ?_
    rintro e w2 ⟨rfl, hR⟩
    have HR : Hid _ := hR
    clear hR CB
    go_wp2
    go_end0
    refine ⟨rfl, ?_⟩
    unfold CgJb
    rw [HF.out]
    exact ⟨w1, B1.out, HR.out⟩
end Go.Proofs.YthmfcloecmnfnaaGreat.f13

/-
  Package rec and the document side by side: Bytes, May, Same, Take.
-/
import Derived.Test.YtippnkendoghpaaR12Shn
import Derived.Test.YtippnkendoghpaaR12Sam
import Derived.Test.YtippnkendoghpaaR12Dsm
import Derived.Test.YtippnkendoghpaaR12Dmy
import Derived.Test.YtippnkendoghpaaR12Tke
namespace Go.Proofs.Ytippnkendoghpaa.r12
open Go.RowKit Go.Shelf Go.Sort
open Go.Lib hiding intOf

/-- what Bytes comes to -/
structure ByR (r : R12) (bs : ByteArray) (en : Int) : Prop where
  yes : May r → bs = S (bytR r) ∧ en = 0
  no : ¬ May r → bs = ⟨#[]⟩ ∧ en = 1
  pr : ∀ w vv, Vs w vv r.v → Calls Try.prog 9 #[rV r vv] w fun e w' => e = .returned (.tuple #[.string bs, .int .i64 en]) ∧ Below w.heap.size w w'
theorem by_any {r : R12} (hk : Rk r) : ∃ bs en, ByR r bs en := by
  by_cases h : May r
  · exact ⟨_, _, fun _ => ⟨rfl, rfl⟩, fun n => absurd h n, fun w vv hv => Bytes_yes hv hk h⟩
  · exact ⟨_, _, fun y => absurd y h, fun _ => ⟨rfl, rfl⟩, fun w vv hv => Bytes_no hv hk h⟩
theorem dby_any {r : R12} {bs : ByteArray} {en : Int} (hk : Rk r) (b : ByR r bs en) : ∀ w vv, Vs w vv r.v → Calls Try.prog 10 #[rV r vv] w fun e w' => e = .returned (.tuple #[.string bs, .int .i64 en]) ∧ Below w.heap.size w w' := by
  intro w vv hv
  by_cases h : May r
  · obtain ⟨rfl, rfl⟩ := b.yes h
    exact dBytes_yes hk hv h
  · obtain ⟨rfl, rfl⟩ := b.no h
    exact dBytes_no hk hv h
theorem may_two {r : R12} (hk : Rk r) : ∃ p : Bool, (∀ w vv, Vs w vv r.v → Calls Try.prog 11 #[rV r vv] w fun e w' => e = .returned (.bool p) ∧ Below w.heap.size w w') ∧ (∀ w vv, Vs w vv r.v → Calls Try.prog 12 #[rV r vv] w fun e w' => e = .returned (.bool p) ∧ Below w.heap.size w w') := by
  by_cases h : May r
  · exact ⟨true, fun w vv hv => rMay_yes hv hk h, fun w vv hv => dMay_any hk hv true ⟨fun _ => h, fun _ => rfl⟩⟩
  · exact ⟨false, fun w vv hv => rMay_no hv hk h, fun w vv hv => dMay_any hk hv false ⟨(fun e => by cases e), fun e => absurd e h⟩⟩
theorem sam_two {r q : R12} (hk : Rk r) (hq : Rk q) : ∃ p : Bool, (p = true ↔ r = q) ∧ (∀ w vv uu, Vs w vv r.v → Vs w uu q.v → Calls Try.prog 13 #[rV r vv, rV q uu] w fun e w' => e = .returned (.bool p) ∧ Below w.heap.size w w') ∧ (∀ w vv uu, Vs w vv r.v → Vs w uu q.v → Calls Try.prog 14 #[rV r vv, rV q uu] w fun e w' => e = .returned (.bool p) ∧ Below w.heap.size w w') := by
  by_cases h : r = q
  · subst h
    refine ⟨true, ⟨fun _ => rfl, fun _ => rfl⟩, fun w vv uu hv hu => ?_, fun w vv uu hv hu => dSame_any hv hu hk.vl hk.vl true ⟨fun _ => rfl, fun _ => rfl⟩⟩
    have := Same_p hv hu hk.vl hk.vl (Pe.refl r)
    rw [decide_eq_true (rfl : r.v = r.v)] at this
    exact this
  · refine ⟨false, ⟨(fun e => by cases e), fun e => absurd e h⟩, fun w vv uu hv hu => ?_, fun w vv uu hv hu => dSame_any hv hu hk.vl hq.vl false ⟨(fun e => by cases e), fun e => absurd e h⟩⟩
    by_cases hp : Pe r q
    · have := Same_p hv hu hk.vl hq.vl hp
      rw [decide_eq_false (fun e => h (hp.eq e))] at this
      exact this
    · exact Same_n hv hu hk.vl hq.vl hp
end Go.Proofs.Ytippnkendoghpaa.r12

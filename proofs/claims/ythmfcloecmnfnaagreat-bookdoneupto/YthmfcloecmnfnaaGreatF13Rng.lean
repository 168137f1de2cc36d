/-
  Keys that are numbers of 64 bits.
-/
import Derived.Test.YthmfcloecmnfnaaGreatF13Ef0
namespace Go.Proofs.YthmfcloecmnfnaaGreat.f13
open Go.RowKit Go.Shelf Go.Sort
open Go.Lib hiding intOf

/-- the keys by which a state's elements belong to tokens are numbers of 64 bits -/
structure Kr (s : St) : Prop where
  kTk : ∀ x ∈ s.tokens, x.key < 18446744073709551616
  kJb : ∀ x ∈ s.jobs, x.token < 18446744073709551616
  kTm : ∀ x ∈ s.timers, x.token < 18446744073709551616
  kSb : ∀ x ∈ s.subs, x.token < 18446744073709551616
theorem Kr.e {s : St} (h : Kr s) : Kr s.e := ⟨h.kTk, h.kJb, h.kTm, h.kSb⟩
theorem Kr.of_e {s : St} (h : Kr s.e) : Kr s := ⟨h.kTk, h.kJb, h.kTm, h.kSb⟩
/-- so are a record's kind and keys -/
def Rc.ok (r : Rc) : Prop := (-9223372036854775808 ≤ r.kd ∧ r.kd ≤ 9223372036854775807) ∧ r.k1 < 18446744073709551616 ∧ r.k2 < 18446744073709551616
end Go.Proofs.YthmfcloecmnfnaaGreat.f13

/-
  Contracts of the reader's call Text: it answers as a function on lists of bytes says; but for the reader's own block nothing that was there before the call is changed.
-/
import Derived.Test.YtnelekbaniljkaaDoorCalls
import Derived.Test.YtnelekbaniljkaaDoorTexts
namespace Go.Proofs.YtnelekbaniljkaaDoor
open Go.RowKit

theorem Rd.alloc {b e : Nat} {l : List UInt8} {w : World} (h : Rd w b l e) (o : Obj) : Rd (w.alloc o) b l e :=
  h.below ((Below.refl w.heap.size w).alloc (Nat.le_refl _) o) h.lt

set_option maxHeartbeats 400000 in
theorem Text_nil (most : Int) (w : World) : Calls Tryd.prog 44 #[.pointer none, .int .i64 most] w fun r w' => r = .returned (.string (S [])) ∧ Below w.heap.size w w' := by
  go_enter Tryd.func44, Tryd.ntmps44
  go_wp2_with (first | (go_at_call 45; refine (Err_nil _).mono ?_; rintro r w' ⟨rfl, rfl⟩) | go_in)
  go_ret
  exact ⟨rfl, ((Below.refl _ _).alloc (Nat.le_refl _) _).alloc (by simp) _⟩

set_option maxHeartbeats 400000 in
theorem Text_wrong {b e : Nat} {l : List UInt8} {w : World} (h : Rd w b l e) (he : e ≠ 0) (most : Int) : Calls Tryd.prog 44 #[.pointer (some ⟨b, 0, none⟩), .int .i64 most] w fun r w' => r = .returned (.string (S [])) ∧ Rd w' b l e ∧ But b w w' := by
  have hb : (((e : Nat) : Int) != 0) = true := by rw [bne_iff_ne]; omega
  clear he
  go_enter Tryd.func44, Tryd.ntmps44
  go_wp2_with (first | (go_at_call 45; refine (Err_any ((h.alloc _).alloc _)).mono ?_; rintro r w' ⟨rfl, rfl⟩) | go_in)
  go_ret
  exact ⟨rfl, (h.alloc _).alloc _, ((But.refl _ _).alloc _).alloc _⟩

set_option maxHeartbeats 1000000 in
theorem Text_ok {b : Nat} {most : Int} {s l rest : List UInt8} {w : World} (h : Rd w b l 0) (hl : l.length ≤ 281474976710656 ∨ (most ≤ 281474976710656 ∧ l.length ≤ 9223372036854775800)) (hm : most ≤ 9223372036854775807) (hres : Hid (tex most l = (s, rest, 0))) :
    Calls Tryd.prog 44 #[.pointer (some ⟨b, 0, none⟩), .int .i64 most] w fun r w' => r = .returned (.string (S s)) ∧ Rd w' b rest 0 ∧ But b w w' := by
  have h2 := ((h.alloc (.cells #[.pointer (some ⟨b, 0, none⟩)] 39)).alloc (.cells #[.int .i64 most] 3))
  have hlt := h.lt
  have h0 := h.rest
  go_enter Tryd.func44, Tryd.ntmps44
  go_wp2_with (first
    | (go_at_call 45; refine (Err_any h2).mono ?_; rintro r w' ⟨rfl, rfl⟩)
    | (go_at_call 66; refine (takeText_res h2 hl hm hres).mono ?_; rintro r w' ⟨rfl, hr, hb⟩)
    | go_in)
  go_ret
  exact ⟨rfl, hr, (((But.refl _ _).alloc _).alloc _).trans hb⟩

set_option maxHeartbeats 1000000 in
theorem Text_bad {b er : Nat} {most : Int} {s l rest : List UInt8} {w : World} (h : Rd w b l 0) (hl : l.length ≤ 281474976710656 ∨ (most ≤ 281474976710656 ∧ l.length ≤ 9223372036854775800)) (hm : most ≤ 9223372036854775807) (hres : Hid (tex most l = (s, rest, er))) (he : er ≠ 0) :
    Calls Tryd.prog 44 #[.pointer (some ⟨b, 0, none⟩), .int .i64 most] w fun r w' => r = .returned (.string (S [])) ∧ Rd w' b l er ∧ But b w w' := by
  have h2 := ((h.alloc (.cells #[.pointer (some ⟨b, 0, none⟩)] 39)).alloc (.cells #[.int .i64 most] 3))
  have hlt := h.lt
  have h0 := h.rest
  have hbe : (((er : Nat) : Int) != 0) = true := by rw [bne_iff_ne]; omega
  clear he
  go_enter Tryd.func44, Tryd.ntmps44
  go_wp2_with (first
    | (go_at_call 45; refine (Err_any h2).mono ?_; rintro r w' ⟨rfl, rfl⟩)
    | (go_at_call 66; refine (takeText_res h2 hl hm hres).mono ?_; rintro r w' ⟨rfl, hr, hb⟩; have fr := hr.fr; have fe := hr.fe; have c0 := hr.rest; have c1 := hr.err)
    | go_in)
  go_ret
  exact ⟨rfl, (hr.set0 l).set1 er, (((((But.refl _ _).alloc _).alloc _).trans hb).setCell _ _).setCell _ _⟩

end Go.Proofs.YtnelekbaniljkaaDoor

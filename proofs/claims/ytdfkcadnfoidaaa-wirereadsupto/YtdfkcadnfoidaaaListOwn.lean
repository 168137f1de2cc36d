/-
  The reader's call List once more: the list that it answers lies in memory of its own.
-/
import Derived.Test.YtdfkcadnfoidaaaLists
namespace Go.Proofs.Ytdfkcadnfoidaaa
open Go.RowKit

theorem ownsRow_mono {w : World} {base base' : Nat} {t : TypeId} {size : Nat} {v : Value} {n : Nat} {xs : List Value} (h : w.ownsRow base t size v n xs) (hb : base' ≤ base) : w.ownsRow base' t size v n xs := by
  obtain ⟨h1, h2⟩ := h
  refine ⟨h1, ?_⟩
  rcases h2 with h2 | ⟨g, cap, cur, hv, hg, r⟩
  · exact .inl h2
  · exact .inr ⟨g, cap, cur, hv, Nat.le_trans hb hg, r⟩

set_option maxHeartbeats 2000000 in
theorem Lst_own {b : Nat} {many most : Int} {res : List (List UInt8)} {l rest : List UInt8} {w : World} (h : Rd w b l 0) (hl : l.length ≤ 8796093022208) (hmany : many ≤ 9223372036854775807) (hm : most ≤ 9223372036854775807) (hres : Hid (lis many most l = (res, rest, 0))) :
    Calls Try.prog 28 #[.pointer (some ⟨b, 0, none⟩), .int .i64 many, .int .i64 most] w fun r w' => ∃ v', r = .returned v' ∧ w'.ownsRow w.heap.size 9 1 v' res.length (strCs res) ∧ Rd w' b rest 0 ∧ But b w w' := by
  have h2 := (((h.alloc (.cells #[.pointer (some ⟨b, 0, none⟩)] 31)).alloc (.cells #[.int .i64 many] 3)).alloc (.cells #[.int .i64 most] 3))
  obtain ⟨k1, k2, k3⟩ := three w (.pointer (some ⟨b, 0, none⟩)) (.int .i64 many) (.int .i64 most) 31 3 3
  have h0 := h2.rest
  have hsz : w.heap.size ≤ (((w.alloc (.cells #[.pointer (some ⟨b, 0, none⟩)] 31)).alloc (.cells #[.int .i64 many] 3)).alloc (.cells #[.int .i64 most] 3)).heap.size := by simp; omega
  have HSZ := (show Hid (w.heap.size ≤ (((w.alloc (.cells #[.pointer (some ⟨b, 0, none⟩)] 31)).alloc (.cells #[.int .i64 many] 3)).alloc (.cells #[.int .i64 most] 3)).heap.size) from hsz)
  clear hsz
  go_enter Try.func28, Try.ntmps28
  go_wp2_with (first
    | (go_at_call 31; refine (Err_any h2).mono ?_; rintro r w' ⟨rfl, rfl⟩)
    | (go_at_call 49; refine (takeList_res h2 hl hmany hm hres).mono ?_; rintro r w' ⟨v', rfl, hown, hr, hb⟩; have hst := ownsRow_mono hown HSZ.out; clear hown)
    | go_in)
  go_ret
  exact ⟨_, rfl, hst, hr, ((((But.refl _ _).alloc _).alloc _).alloc _).trans hb⟩

end Go.Proofs.Ytdfkcadnfoidaaa

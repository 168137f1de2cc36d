/-
  Contract of package wire's List: what is returned is the document's bytes of the list; nothing that was there before the call is changed.
-/
import Derived.Test.YtdfkcadnfoidaaaWrites
namespace Go.Proofs.Ytdfkcadnfoidaaa
open Go.RowKit

/-- v is a slice of the strings ls -/
def Strs (w : World) (v : Value) (ls : List (List UInt8)) : Prop :=
  ∃ a cap, v = .slice a ls.length cap ∧ (ls = [] ∨ ∃ b off, a = some ⟨b, off, none⟩ ∧ b < w.heap.size ∧ ∀ j, j < ls.length → w.cell? ⟨b, off + j, none⟩ = some (.string (S (ls.getD j []))))

theorem Strs.below {B : Nat} {w w' : World} {v : Value} {ls : List (List UInt8)} (h : Strs w v ls) (hb : Below B w w') (hB : w.heap.size ≤ B) : Strs w' v ls := by
  obtain ⟨a, cap, rfl, h⟩ := h
  refine ⟨a, cap, rfl, ?_⟩
  rcases h with h | ⟨b, off, rfl, hlt, hc⟩
  · exact .inl h
  · exact .inr ⟨b, off, rfl, Nat.lt_of_lt_of_le hlt hb.size, fun j hj => (hb.cell (p := ⟨b, off + j, none⟩) (Nat.lt_of_lt_of_le hlt hB)).trans (hc j hj)⟩

/-- texts one behind the other -/
def cat (ls : List (List UInt8)) : List UInt8 := (ls.map txt).flatten
/-- a list's bytes -/
def lst (ls : List (List UInt8)) : List UInt8 := Lib.uvarint ls.length ++ cat ls

theorem cat_snoc (ls : List (List UInt8)) (k : Nat) (hk : k < ls.length) : cat (ls.take (k + 1)) = cat (ls.take k) ++ txt (ls.getD k []) := by
  have hg : ls.getD k [] = ls[k] := by simp [List.getD, hk]
  unfold cat
  rw [hg, List.take_succ_eq_append_getElem hk, List.map_append, List.flatten_append]
  simp only [List.map_cons, List.map_nil, List.flatten_cons, List.flatten_nil, List.append_nil]
theorem cat_take_le (ls : List (List UInt8)) (k : Nat) : (cat (ls.take k)).length ≤ (cat ls).length := by
  have h : cat ls = cat (ls.take k) ++ cat (ls.drop k) := by
    unfold cat
    rw [← List.flatten_append, ← List.map_append, List.take_append_drop]
  rw [h]
  simp
theorem txt_ge (l : List UInt8) : l.length + 1 ≤ (txt l).length := by
  have := Lib.uvarint_pos l.length
  rw [txt_length]
  omega
theorem cat_len (ls : List (List UInt8)) : ls.length ≤ (cat ls).length := by
  induction ls with
  | nil => simp
  | cons s t ih =>
    have := txt_ge s
    simp only [cat, List.map_cons, List.flatten_cons, List.length_append, List.length_cons] at ih ⊢
    omega

set_option maxHeartbeats 2000000 in
set_option maxRecDepth 100000 in
theorem List_any {v : Value} {ls : List (List UInt8)} {w : World} (hv : Strs w v ls) (hlim : (lst ls).length + 10 ≤ 140737488355328) :
    Calls Try.prog 16 #[v] w fun e w' => e = .returned (.string (S (lst ls))) ∧ Below w.heap.size w w' := by
  have hcl := cat_len ls
  have hll : (lst ls).length = (Lib.uvarint ls.length).length + (cat ls).length := by simp [lst]
  have hlt : ls.length < 18446744073709551616 := by omega
  obtain ⟨a, cap, rfl, hv⟩ := hv
  go_enter Try.func16, Try.ntmps16
  go_wp2_with fail
  refine (putUint_any w.heap.size 0 ls.length hlt _ [] _ (World.ownsRow_nil _ _ _ _) (Nat.le_refl _) (by omega)).mono ?_
  rintro e w1 ⟨v1, rfl, hown1, hb1⟩
  rw [Nat.zero_add, List.nil_append] at hown1
  go_wp2_with fail
  go_loopw [3, 12] (fun vb vi wr => ∃ k : Nat, k ≤ ls.length ∧ vi = .int .i64 (k : Int) ∧ wr.ownsRow w.heap.size 5 1 vb ((Lib.uvarint ls.length).length + (cat (ls.take k)).length) (Lib.byteCells (Lib.uvarint ls.length ++ cat (ls.take k))) ∧ Below w.heap.size w wr)
    (fun _ vi _ => ls.length - (intOf vi).toNat)
  case atStart => exact ⟨0, Nat.zero_le _, rfl, by simpa [cat] using hown1, hb1⟩
  case round =>
    obtain ⟨k, hk, rfl, hown, hbel⟩ := hrel
    clear hown1 hb1
    by_cases hkl : k < ls.length
    · rcases hv with hv | ⟨b, off, rfl, hlt2, hc⟩
      · rw [hv] at hkl; simp at hkl
      · have hck := (hbel.cell (p := ⟨b, off + k, none⟩) hlt2).trans (hc k hkl)
        have hsn := cat_snoc ls k hkl
        have hle := cat_take_le ls (k + 1)
        rw [hsn] at hle
        have htl := txt_length (ls.getD k [])
        have hge := txt_ge (ls.getD k [])
        have hsz := hbel.size
        generalize ls.getD k [] = s at *
        have HS : Hid (cat (ls.take (k + 1)) = cat (ls.take k) ++ txt s) := hsn
        rw [List.length_append] at hle
        clear hsn hc
        go_wp2_with fail
        refine (putText_any w.heap.size _ s _ _ _ hown (by omega) (by omega)).mono ?_
        rintro e w2 ⟨v2, rfl, hown2, hb2⟩
        have hbel2 := hbel.trans hb2
        clear hown hb2 hbel
        go_wp2_with fail
        refine ⟨⟨k + 1, by omega, by go_num, ?_, hbel2⟩, by simp [intOf]; omega⟩
        rw [HS.out, List.length_append, ← List.append_assoc, Lib.byteCells_append _ (txt s), ← Nat.add_assoc]
        exact hown2
    · have hkk : k = ls.length := by omega
      subst hkk
      have hcv := conv_own (l := Lib.uvarint ls.length ++ cat (ls.take ls.length)) hown
      rw [List.take_length] at hcv
      have hs : S (Lib.uvarint ls.length ++ cat ls) = S (lst ls) := rfl
      rw [hs] at hcv
      clear hs hown hll
      go_wp2
      go_ret
      exact ⟨rfl, hbel⟩

end Go.Proofs.Ytdfkcadnfoidaaa

/-
  The document's disk: Names; Delete.
-/
import Derived.Test.YtedcabnjcbdkaaaD5C
namespace Go.Proofs.Ytedcabnjcbdkaaa
open Go.RowKit Go.Shelf Go.Sort
open Go.Lib hiding intOf
variable {w : World} {B db : Nat} {fs : List Fil} {p : Int} {off : Bool} {sv : Value} {st : Ab}

theorem nms_snoc (fs : List Fil) {i : Nat} (hi : i < fs.length) : nms (fs.take (i + 1)) = nms (fs.take i) ++ [.string fs[i].1] := by
  unfold nms
  rw [List.take_succ_eq_append_getElem hi, List.map_append]
  rfl
/-- what stands in the loop of Names -/
def JN (w : World) (fs : List Fil) (i : Nat) (v : Value) (wr : World) : Prop := wr.ownsRow w.heap.size 9 1 v i (nms (fs.take i)) ∧ Below w.heap.size w wr
set_option maxRecDepth 100000 in
set_option maxHeartbeats 4000000 in
theorem dNames (h : Dk w db B fs p off sv) (hf : fs.length ≤ 256) :
    Calls Try.prog 17 #[.pointer (some ⟨db, 0, none⟩)] w fun e w' => ∃ v, e = .returned v ∧ w'.ownsRow w.heap.size 9 1 v fs.length (nms fs) ∧ Below w.heap.size w w' := by
  obtain ⟨i0, hi0, hz0, hz1, hz2⟩ := info_parts infoStr
  have H : Hid (Dk w db B fs p off sv) := h
  obtain ⟨sa, sc, rfl, -⟩ := row_slice h.row
  clear h
  go_enter Try.func17, Try.ntmps17
  go_wp2_with fail
  go_loopw [3, 4] (fun u vi wr => ∃ (i : Nat) (v : Value), u = v ∧ vi = .int .i64 i ∧ i ≤ fs.length ∧ JN w fs i v wr) (fun _ vi _ => fs.length - (intOf vi).toNat)
  case atStart => exact ⟨0, _, rfl, rfl, Nat.zero_le _, World.ownsRow_nil _ _ _ _, Below.refl _ _⟩
  case round =>
    obtain ⟨i, v3, hv3, rfl, hi, hJ⟩ := hrel
    subst hv3
    have hD := H.out.below hJ.2
    have c0 := hD.c0
    by_cases hl : i < fs.length
    · have hli : (i : Int) < (fs.length : Int) := by omega
      have hi1 : (0 : Int) ≤ (i : Int) := Int.natCast_nonneg _
      obtain ⟨g, c, hg⟩ := hD.slice hl
      injection hg with hg _ _
      subst hg
      have m0 := row_cell hD.row (fcells_at fs i hl).1
      have HN : Hid (nms (fs.take (i + 1)) = nms (fs.take i) ++ [.string fs[i].1]) := nms_snoc fs hl
      have HJ : Hid (wr.ownsRow w.heap.size 9 1 u3 i (nms (fs.take i)) ∧ Below w.heap.size w wr) := hJ
      obtain ⟨a3, c3, rfl, -⟩ := row_slice hJ.1
      clear hD hJ
      generalize fs[i].1 = nm at *
      go_wp2_with (at_builtin; refine wpList_append_own _ rfl _ _ 33 rfl w.heap.size 9 i0 _ 1 16 Try.underlying33 hi0 hz0 hz1 hz2 rfl (by decide) _ i (nms (fs.take i)) rfl (HJ.out.1.alloc _) ⟨wr.heap.size, 0, none⟩ 1 1 [.string nm] rfl rfl (new_one _ _ rfl _ _) (by simp [Value.oneCell']) (by unfold maxLen; omega) (by omega) (by have := HJ.out.2.size; simp; omega) ?_; intro v5 w5 ho5 hg5 _)
      go_roundw
      case rel =>
        refine ⟨i + 1, _, rfl, by simp, by omega, ?_, (HJ.out.2.alloc HJ.out.2.size _).grown hg5 (by have := HJ.out.2.size; simp; omega) (fun k hk => (HJ.out.1.lt k hk).1)⟩
        rw [HN.out]
        exact ho5
      case measure => simp [intOf]; omega
    · have hli : ¬ (i : Int) < (fs.length : Int) := by omega
      obtain rfl : i = fs.length := by omega
      rw [show JN w fs fs.length u3 wr = (wr.ownsRow w.heap.size 9 1 u3 fs.length (nms (fs.take fs.length)) ∧ Below w.heap.size w wr) from rfl, List.take_length] at hJ
      have HJ : Hid _ := hJ
      clear hD hJ
      go_wp2
      go_ret
      exact ⟨u3, rfl, HJ.out.1, HJ.out.2⟩

theorem infoFile : (Try.prog.info? 47).map (fun i => (i.zero, i.size, i.bytes)) = some (some (.agg #[.string ⟨#[]⟩, .string ⟨#[]⟩, .string ⟨#[]⟩]), 3, 48) := by kernel_rfl
theorem three_cells {w : World} {vb : Nat} {x y z : Value} {t : TypeId} (hv : w.heap[vb]? = some (.cells #[x, y, z] t (0, 0))) : ∀ j u, ([x, y, z] : List Value)[j]? = some u → w.cell? ⟨vb, 0 + j, none⟩ = some u := by
  intro j u hj
  match j, hj with
  | 0, hj => simp at hj; subst hj; simp [World.cell?, hv]
  | 1, hj => simp at hj; subst hj; simp [World.cell?, hv]
  | 2, hj => simp at hj; subst hj; simp [World.cell?, hv]
theorem fcells_snoc (l : List Fil) (f : Fil) : fcells (l ++ [f]) = fcells l ++ [.string f.1, .string f.2.1, .string f.2.2] := by
  unfold fcells
  rw [List.flatMap_append]
  rfl
/-- a new row is the disk's -/
theorem Dk.newrow {fs' : List Fil} {base : Nat} {sv' : Value} (h : Dk w db B fs p off sv) (hr : w.ownsRow base 47 3 sv' fs'.length (fcells fs')) (hB : B ≤ base) : Dk (w.setCell ⟨db, 0, none⟩ sv') db B fs' p off sv' :=
  ⟨heap_setCell_same w db 0 _ _ _ h.hd, row_low (((Ch.refl (fun k => k = db) w).setCell ⟨db, 0, none⟩ _ (fun _ => rfl)).row hr (fun k hk e => by
    subst e
    obtain ⟨_, cur, hx⟩ := row_obj hr hk
    rw [h.hd] at hx; injection hx with x; injection x with _ x; cases x)) hB⟩
/-- the first i files without the one at e -/
def ers (fs : List Fil) (e i : Nat) : List Fil := (fs.take i).eraseIdx e
theorem ers_step (fs : List Fil) (e : Nat) {i : Nat} (hi : i < fs.length) : ers fs e (i + 1) = if i = e then ers fs e i else ers fs e i ++ [fs[i]] := by
  unfold ers
  have hl : (fs.take i).length = i := by simp; omega
  rw [List.take_succ_eq_append_getElem hi]
  by_cases h1 : e < i
  · rw [List.eraseIdx_append_of_lt_length (by omega), if_neg (by omega)]
  · rw [List.eraseIdx_append_of_length_le (by omega), hl, List.eraseIdx_of_length_le (l := fs.take i) (by omega)]
    by_cases h2 : i = e
    · subst h2; simp
    · rw [if_neg h2, List.eraseIdx_of_length_le (by simp; omega)]
theorem ers_len (fs : List Fil) (e i : Nat) : (ers fs e i).length ≤ fs.length := by
  unfold ers
  have := List.length_eraseIdx_le (l := fs.take i) e
  simp at this ⊢
  omega
def JD (w2 : World) (fs : List Fil) (e i : Nat) (v : Value) (wr : World) : Prop := wr.ownsRow w2.heap.size 47 3 v (ers fs e i).length (fcells (ers fs e i)) ∧ Below w2.heap.size w2 wr
set_option maxRecDepth 100000 in
set_option maxHeartbeats 8000000 in
theorem ddel_ok (h : Dk w db B fs p false sv) (k : ByteArray) (hf : fs.length ≤ 256) (hp : -9223372036854775808 ≤ p ∧ p ≤ 9223372036854775807) {e : Nat} (he : e < fs.length) (hx : fnum fs k = (e : Int)) (hpo : powOk p = true) (hB : B ≤ w.heap.size) :
    Calls Try.prog 31 #[.pointer (some ⟨db, 0, none⟩), .string k] w fun r w' => r = .returned (.int .i64 0) ∧ DDid w B db sv w' (fs.eraseIdx e, powOf p, false) := by
  have hA := dasks_any h k (by omega)
  have ha : askNo fs false k = 0 := by simp [askNo, hx]
  rw [ha, if_pos rfl, hx] at hA
  have hA2 := dact_any h hp
  rw [hpo] at hA2
  obtain ⟨i0, hi0, hz0, hz1, hz2⟩ := info_parts infoFile
  obtain ⟨g, c, rfl⟩ := h.slice he
  clear h ha hx
  go_enter Try.func31, Try.ntmps31
  go_wp2_with (first
    | (go_at_call 40; refine hA.mono ?_; rintro e1 w1 ⟨rfl, rfl⟩)
    | (go_at_call 42; refine hA2.mono ?_; rintro e2 w2 ⟨rfl, D2, C2⟩; have HD : Hid _ := And.intro D2 C2; clear D2 C2))
  go_loopw [8, 9] (fun u vi wr => ∃ (i : Nat) (v : Value), u = v ∧ vi = .int .i64 i ∧ i ≤ fs.length ∧ JD w2 fs e i v wr) (fun _ vi _ => fs.length - (intOf vi).toNat)
  case atStart => exact ⟨0, _, rfl, rfl, Nat.zero_le _, World.ownsRow_nil _ _ _ _, Below.refl _ _⟩
  case round =>
    obtain ⟨i, v8, hv8, rfl, hi, hJ⟩ := hrel
    subst hv8
    have hD := HD.out.1.below hJ.2
    have c0 := hD.c0
    by_cases hl : i < fs.length
    · have hli : (i : Int) < (fs.length : Int) := by omega
      have hi1 : (0 : Int) ≤ (i : Int) := Int.natCast_nonneg _
      have m0 := row_cell hD.row (fcells_at fs i hl).1
      have m1 := row_cell hD.row (fcells_at fs i hl).2.1
      have m2 := row_cell hD.row (fcells_at fs i hl).2.2
      have HS : Hid (ers fs e (i + 1) = if i = e then ers fs e i else ers fs e i ++ [fs[i]]) := ers_step fs e hl
      have HJ : Hid (wr.ownsRow w2.heap.size 47 3 u8 (ers fs e i).length (fcells (ers fs e i)) ∧ Below w2.heap.size w2 wr) := hJ
      have hlen := ers_len fs e i
      obtain ⟨a3, c3, rfl, -⟩ := row_slice hJ.1
      clear hD hJ
      by_cases hie : i = e
      · have hbn : ((i : Int) != (e : Int)) = false := by subst hie; simp
        have HE : Hid (i = e) := hie
        clear hie
        go_wp2_with fail
        go_roundw
        case rel =>
          refine ⟨i + 1, _, rfl, by simp, by omega, ?_⟩
          unfold JD
          rw [HS.out, if_pos HE.out]
          exact HJ.out
        case measure => simp [intOf]; omega
      · have hbn : ((i : Int) != (e : Int)) = true := by simp; omega
        have HE : Hid (¬ i = e ∧ fs[i] = (fs[i].1, fs[i].2.1, fs[i].2.2)) := ⟨hie, rfl⟩
        clear hie
        have HF : Hid (fcells (ers fs e i ++ [fs[i]]) = fcells (ers fs e i) ++ [.string fs[i].1, .string fs[i].2.1, .string fs[i].2.2]) := fcells_snoc _ _
        generalize ers fs e i = L at *
        generalize fs[i] = F at *
        obtain ⟨nm, sa, re⟩ := F
        simp only at m0 m1 m2
        go_wp2_with (at_builtin; refine wpList_append_own _ rfl _ _ 35 rfl w2.heap.size 47 i0 _ 3 48 Try.underlying35 hi0 hz0 hz1 hz2 rfl (by decide) _ L.length (fcells L) rfl (HJ.out.1.alloc _) ⟨wr.heap.size, 0, none⟩ 1 1 [.string nm, .string sa, .string re] rfl rfl (fun j u hj => by rw [Addr.add_lit]; exact three_cells (heap_alloc_new wr _) j u hj) (by simp [Value.oneCell']) (by unfold maxLen; omega) (by omega) (by have := HJ.out.2.size; simp; omega) ?_; intro v5 w5 ho5 hg5 _)
        go_roundw
        case rel =>
          refine ⟨i + 1, _, rfl, by simp, by omega, ?_, (HJ.out.2.alloc HJ.out.2.size _).grown hg5 (by have := HJ.out.2.size; simp; omega) (fun k hk => (HJ.out.1.lt k hk).1)⟩
          rw [HS.out, if_neg HE.out.1, HF.out, List.length_append]
          exact ho5
        case measure => simp [intOf]; omega
    · have hli : ¬ (i : Int) < (fs.length : Int) := by omega
      obtain rfl : i = fs.length := by omega
      have f0 := hD.fro 0
      have hJ' : wr.ownsRow w2.heap.size 47 3 u8 (fs.eraseIdx e).length (fcells (fs.eraseIdx e)) ∧ Below w2.heap.size w2 wr := by
        have := hJ
        unfold JD ers at this
        rw [List.take_length] at this
        exact this
      obtain ⟨a8, c8, rfl, -⟩ := row_slice hJ'.1
      have hN := hD.newrow hJ'.1 (Nat.le_trans hB HD.out.2.size)
      have HZ : Hid (DDid w1 B db (.slice (some ⟨g, 0, none⟩) fs.length c) (wr.setCell ⟨db, 0, none⟩ (.slice a8 (fs.eraseIdx e).length c8)) (fs.eraseIdx e, powOf p, false)) :=
        ⟨_, hN, (((HD.out.2.mono (fun _ _ e => .inl e)).trans (Ch.of_below hJ'.2)).setCell ⟨db, 0, none⟩ _ (fun _ => .inl rfl)), fun x hx => .inr (Nat.le_trans HD.out.2.size (row_obj hJ'.1 hx).1)⟩
      clear hD hJ hN hJ'
      go_wp2
      go_ret
      exact ⟨rfl, HZ.out⟩
end Go.Proofs.Ytedcabnjcbdkaaa

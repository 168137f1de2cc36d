/-
  Package run: what stands behind a run's blocks (tail).
-/
import Derived.Test.YtiaeicfmdnmeeaaH7Add
namespace Go.Proofs.Ytiaeicfmdnmeeaa
open Go.RowKit Go.Shelf Go.Sort
open Go.Lib hiding intOf

/-- append(b, s...), b such a slice -/
theorem run_append_M2 {P : Program} (w : World) (base : Nat) (t u ty e : TypeId) (i : TypeInfo) (ht : P.underlying t = some (.slice e)) (hu : P.underlying u = some .string) (hi : P.info? e = some i) (hz : i.zero = some (.int .u8 0))
    (hsize : i.size = 1) (hby : i.bytes = 1) (v : Value) (n : Nat) (xs : List Value) (hown : ownsM w base e v n xs) (s : ByteArray) (hbytes : n + s.size ≤ 140737488355328) (hbase : base ≤ w.heap.size) :
    ∃ v' w', (Builtin.append_ #[t, u] ty #[v, .string s]).run P w = .ok v' w' ∧ ownsM w' base e v' (n + s.size) (xs ++ Lib.strCells s) ∧ Below base w w' ∧ (∀ k, k < w.heap.size → v.ownBlock ≠ some k → w'.heap[k]? = w.heap[k]?) := by
  obtain ⟨g0, cap0, hv0, _, _, hcs⟩ := hown.cells
  obtain ⟨hxl, g, cap, cur, fz, rfl, hbg, hg, hm, hnc, hcm, hcu, htk⟩ := hown
  obtain ⟨rfl, rfl⟩ : g0 = g ∧ cap0 = cap := by simp at hv0; exact ⟨hv0.1.symm, hv0.2.symm⟩
  have hlen : (xs ++ Lib.strCells s).length = n + s.size := by rw [List.length_append, hxl, Lib.strCells_length]
  by_cases hroom : n + s.size ≤ cap0
  · have hf := Lib.run_firstCells_string (P := P) w 1 s
    have hst := run_storeCells_M (P := P) g0 n e fz (Lib.strCells s) 0 cur w hg hm (by rw [Lib.strCells_length]; omega) (Lib.strCells_oneCell s)
    simp only [Nat.add_zero, Lib.strCells_length] at hst
    have hr : (Builtin.append_ #[t, u] ty #[.slice (some ⟨g0, 0, none⟩) n cap0, .string s]).run P w = .ok (.slice (some ⟨g0, 0, none⟩) (n + s.size) cap0) (w.setRow g0 (cur.toList.take n ++ Lib.strCells s ++ cur.toList.drop (n + s.size)).toArray) := by
      simp [Builtin.append_, run_underlying ht, run_underlying hu, Go.sizeOf, typeInfo, hi, hsize, Builtin.lenOf, hroom, hf, Addr.add_lit, hst]
    refine ⟨_, _, hr, ⟨hlen, g0, cap0, _, fz, rfl, hbg, setRow_heap w g0 cur _ e _ hg, ?_, hroom, hcm, ?_, ?_⟩, ⟨rfl, rfl, rfl, by simp, fun k hk => setRow_other w g0 k _ (by omega)⟩, fun k _ hne => setRow_other w g0 k _ (fun e => hne (by subst e; rfl))⟩
    · intro j hj
      refine hm j ?_
      simp only [List.size_toArray, List.length_append, List.length_take, List.length_drop, Array.length_toList, Lib.strCells_length] at hj
      omega
    · simp only [List.size_toArray, List.length_append, List.length_take, List.length_drop, Array.length_toList, Lib.strCells_length]
      omega
    · rw [htk, ← hlen]
      exact List.take_left
  · have hr := Lib.run_append_grow_string (P := P) w t u ty e i (.int .u8 0) ht hu hi hz ⟨g0, 0, none⟩ n cap0 xs (by rw [hsize]; simpa using hxl) hcs s (by omega) (by omega) (by rw [hby]; exact growslice_fits (by omega) (by omega))
    have hge := grownCap_ge w (n + s.size) cap0 e
    have hcm2 : grownCap w (n + s.size) cap0 e ≤ maxLen := grownCap_le_maxLen w (n + s.size) cap0 e (by unfold maxLen; omega)
    refine ⟨_, _, hr, ⟨hlen, w.heap.size, _, _, (0, 0), rfl, hbase, heap_alloc_new w.drew _, fun j _ => by simp, hge, hcm2, ?_, ?_⟩, ((Below.refl base w).drew.alloc hbase _), fun k hk _ => Below.heap_alloc w.drew _ k hk⟩
    · have hz1 : (Value.int IntKind.u8 0).cells.size = 1 := rfl
      simp only [Array.size_append, List.size_toArray, size_zeroCells, hz1, hxl, Lib.strCells_length]
      omega
    · simp only [Array.toList_append, List.append_assoc]
      rw [← List.append_assoc, ← hlen]
      exact List.take_left

/-- the operation, for the walk -/
theorem wpList_append_M2 {w : World} {ops : Array Oper} {rest : List Oper} {o : Oper} {a : Act} {Q : Exit → Act → World → Prop} (hgd : o.guard = none) (sl x : Operand) (t u : TypeId)
    (ho : o.op = .call { callee := .builtin .append, args := #[sl, x], argTypes := #[t, u] })
    (base : Nat) (e : TypeId) (i : TypeInfo) (ht : Try.prog.underlying t = some (.slice e)) (hu : Try.prog.underlying u = some .string) (hi : Try.prog.info? e = some i) (hz : i.zero = some (.int .u8 0))
    (hsize : i.size = 1) (hby : i.bytes = 1) (v : Value) (l : List UInt8) (hs : a.eval sl = v) (hown : ownsM w base e v l.length (Lib.byteCells l)) (s : List UInt8) (hx : a.eval x = .string (S s))
    (hbytes : (l ++ s).length ≤ 140737488355328) (hbase : base ≤ w.heap.size)
    (h : ∀ v' w', ownsM w' base e v' (l ++ s).length (Lib.byteCells (l ++ s)) → Below base w w' → (∀ k, k < w.heap.size → v.ownBlock ≠ some k → w'.heap[k]? = w.heap[k]?) → wpList Try.prog ops Q rest (a.put o.dst v') w') : wpList Try.prog ops Q (o :: rest) a w := by
  refine wpList_plain hgd fun K hK => ?_
  have e1 : l.length + (S s).size = (l ++ s).length := by rw [S_size, List.length_append]
  obtain ⟨v', w', hr, h2, h3, h4⟩ := run_append_M2 (P := Try.prog) w base t u o.type e i ht hu hi hz hsize hby v l.length _ hown (S s) (by rw [e1]; exact hbytes) hbase
  rw [e1, Lib.strCells_eq, S_list, ← Lib.byteCells_append] at h2
  unfold Oper.wp execOp
  simp only [ho, resolve, invoke, builtin, Sem.run_bind, Sem.run_pure, Result.andThen_ok, List.map_toArray, List.map_cons, List.map_nil, hs, hx, hr]
  exact hK _ _ (h v' w' h2 h3 h4)
theorem ownsM.block {w : World} {base : Nat} {e : TypeId} {v : Value} {n : Nat} {xs : List Value} (h : ownsM w base e v n xs) {k : Nat} (hk : v.ownBlock = some k) : k < w.heap.size := by
  obtain ⟨g, cap, rfl, _, h2, _⟩ := h.cells
  cases hk
  exact h2

def ile (s : Nat × List UInt8) : List UInt8 := Lib.uvarint s.1 ++ txt s.2
def ils (sp : List (Nat × List UInt8)) : List UInt8 := sp.flatMap ile
/-- an index's load -/
def il (sp : List (Nat × List UInt8)) : List UInt8 := Lib.uvarint sp.length ++ ils sp
theorem il_spn (bs : List (List R7)) : il (bs.map spn) = ix bs := by
  have : ils (bs.map spn) = ixs bs := by
    induction bs with
    | nil => rfl
    | cons y t ih => rw [ixs_cons, ← ih]; simp [ils, ile, spn, ixe]
  unfold il ix
  rw [this, List.length_map]
theorem ils_drop {sp : List (Nat × List UInt8)} {k : Nat} (h : k < sp.length) : ils (sp.drop k) = ile sp[k] ++ ils (sp.drop (k + 1)) := by
  unfold ils; rw [List.drop_eq_getElem_cons h, List.flatMap_cons]
theorem ils_len : ∀ (sp : List (Nat × List UInt8)), (∀ s ∈ sp, s.1 ≤ 2000000 ∧ s.2.length ≤ 64) → (ils sp).length ≤ sp.length * 84
  | [], _ => by simp [ils]
  | s :: t, h => by
    have h1 := h s (by simp)
    have h2 := ils_len t (fun x hx => h x (by simp [hx]))
    have e1 := Lib.uvarint_length64 (show s.1 < 18446744073709551616 by omega)
    have e2 := Lib.uvarint_length64 (show s.2.length < 18446744073709551616 by omega)
    have e3 := txt_length s.2
    simp only [ils, List.flatMap_cons, List.length_append, List.length_cons, ile] at h2 ⊢
    omega
theorem spc_get : ∀ {sp : List (Nat × List UInt8)} {k : Nat} (h : k < sp.length), (spc sp)[k * 2]? = some (.int .i64 (sp[k].1 : Int)) ∧ (spc sp)[k * 2 + 1]? = some (.string (S sp[k].2))
  | x :: t, 0, _ => by simp [spc]
  | x :: t, k + 1, h => by
    have := @spc_get t k (by simpa using h)
    have e : spc (x :: t) = .int .i64 (x.1 : Int) :: .string (S x.2) :: spc t := by simp [spc]
    rw [e, show (k + 1) * 2 = k * 2 + 2 by omega]
    simpa using this
/-- what tail comes to -/
def tlr (sp : List (Nat × List UInt8)) : List UInt8 × Nat := if (il sp).length ≤ 65536 then (frm 3 (il sp) ++ four (frm 3 (il sp)).length, 0) else ([], 13)
theorem frm3_len {l : List UInt8} (h : l.length ≤ 65536) : (frm 3 l).length ≤ 65560 := by
  have := Lib.uvarint_length64 (show l.length < 18446744073709551616 by omega)
  have := txt_length l
  rw [frm_length]; omega

set_option maxHeartbeats 4000000 in
set_option maxRecDepth 100000 in
theorem tail_any {w : World} {B : Nat} {sv : Value} {sp : List (Nat × List UInt8)} (h : w.ownsRow B 97 2 sv sp.length (spc sp)) (hn : sp.length ≤ 2000000) (hs : ∀ s ∈ sp, s.1 ≤ 2000000 ∧ s.2.length ≤ 64) :
    Calls Try.prog 41 #[sv] w fun e w' => e = .returned (.tuple #[.string (S (tlr sp).1), .int .i64 ((tlr sp).2 : Int)]) ∧ Below w.heap.size w w' := by
  obtain ⟨i0, hi, hz0, hz1, hz2⟩ := info_parts infoByte
  have hlt : sp.length < 18446744073709551616 := by omega
  have hil : (il sp).length ≤ 168000010 := by
    have := ils_len sp hs
    have := Lib.uvarint_length64 hlt
    unfold il
    rw [List.length_append]; omega
  have hss := S_size (Lib.uvarint sp.length)
  have H : Hid (w.ownsRow B 97 2 sv sp.length (spc sp)) := h
  obtain ⟨sa, sc, rfl, -⟩ := row_slice h
  have hun := Lib.uvarint_length64 hlt
  clear h
  go_enter Try.func41, Try.ntmps41
  go_wp2_with fail
  refine (Uint_any sp.length hlt _).mono ?_
  rintro e w1 ⟨rfl, hb1⟩
  have hcv := run_bytes_of_string (P := Try.prog) w1 9 51 5 (S (Lib.uvarint sp.length)) Try.underlying9 Try.underlying51 Try.underlying5
  rw [hss] at hcv
  have hM := bytes_M w1 5 (Lib.uvarint sp.length) (by unfold maxLen; omega)
  obtain ⟨O, hO⟩ : ∃ O, O = (Obj.cells (bytesRow (S (Lib.uvarint sp.length)) (grownCap w1 (Lib.uvarint sp.length).length 0 5)) 5 ((bytesRow (S (Lib.uvarint sp.length)) (grownCap w1 (Lib.uvarint sp.length).length 0 5)).size, (bytesRow (S (Lib.uvarint sp.length)) (grownCap w1 (Lib.uvarint sp.length).length 0 5)).size + 1)) := ⟨_, rfl⟩
  change ownsM (w1.drew.alloc (Obj.cells (bytesRow (S (Lib.uvarint sp.length)) (grownCap w1 (Lib.uvarint sp.length).length 0 5)) 5 ((bytesRow (S (Lib.uvarint sp.length)) (grownCap w1 (Lib.uvarint sp.length).length 0 5)).size, (bytesRow (S (Lib.uvarint sp.length)) (grownCap w1 (Lib.uvarint sp.length).length 0 5)).size + 1))) _ _ _ _ _ at hM
  rw [← hO] at hM hcv
  generalize grownCap w1 (Lib.uvarint sp.length).length 0 5 = gc at hM hcv
  clear hO
  go_wp2_with fail
  go_loopw [4, 16] (fun vb vi wr => ∃ k : Nat, k ≤ sp.length ∧ vi = .int .i64 (k : Int) ∧ ∃ P : List UInt8, Hid (P ++ ils (sp.drop k) = il sp) ∧ Hid (ownsM wr w.heap.size 5 vb P.length (Lib.byteCells P)) ∧ Below w.heap.size w wr)
    (fun _ vi _ => sp.length - (intOf vi).toNat)
  case atStart =>
    exact ⟨0, Nat.zero_le _, rfl, Lib.uvarint sp.length, show _ = _ from rfl, hM.mono hb1.size, (hb1.alloc hb1.size _).drew⟩
  case round =>
    obtain ⟨k, hk, rfl, P, HP, hown, hbel⟩ := hrel
    clear hM hb1 hcv
    have hPl : P.length ≤ 168000010 := by have := congrArg List.length HP.out; rw [List.length_append] at this; omega
    by_cases hkl : k < sp.length
    · obtain ⟨g1, hg1⟩ : ∃ g, sa = some ⟨g, 0, none⟩ := by
        rcases H.out.2 with ⟨e, h0⟩ | ⟨g, cap', cur, e, -⟩
        · omega
        · cases e; exact ⟨g, rfl⟩
      subst hg1
      have hgl : g1 < w.heap.size := row_far H.out rfl
      have m1 := (hbel.cell (p := ⟨g1, k * 2, none⟩) hgl).trans (row_cell H.out (spc_get hkl).1)
      have m2 := (hbel.cell (p := ⟨g1, k * 2 + 1, none⟩) hgl).trans (row_cell H.out (spc_get hkl).2)
      have hsk := hs sp[k] (List.getElem_mem hkl)
      have HD := ils_drop hkl
      have hki : (k : Int) < (sp.length : Int) := by omega
      generalize sp[k] = s at *
      obtain ⟨s1, s2⟩ := s
      simp only at m1 m2 hsk
      have HP2 : Hid ((P ++ Lib.uvarint s1 ++ txt s2) ++ ils (sp.drop (k + 1)) = il sp) := by
        show _ = _
        rw [← HP.out, HD]; simp [ile]
      have hq1 := S_size (Lib.uvarint s1)
      have hq2 := S_size (txt s2)
      have hl1 := Lib.uvarint_length64 (show s1 < 18446744073709551616 by omega)
      have hl2 : (txt s2).length ≤ 74 := by
        have := Lib.uvarint_length64 (show s2.length < 18446744073709551616 by omega)
        rw [txt_length]; omega
      have hsz := hbel.size
      have HU : ∀ w, _ := fun w => Uint_any s1 (by omega) w
      clear HD HP
      obtain ⟨gb, cb, rfl, -, hgb, -⟩ := hown.out.cells
      go_wp2_with (first
        | (go_at_call 59; refine (HU _).mono ?_; rintro e w2 ⟨rfl, hb2⟩; (have BB : Hid (Below w.heap.size w w2) := bel_of (hbel.alloc hsz _) hb2 (Nat.le_refl _)); (have t1 : w2.cell? ⟨wr.heap.size, 1, none⟩ = some (.string (S s2)) := (hb2.cell (p := ⟨wr.heap.size, 1, none⟩) (by simp)).trans (by go_simp)); have hsz2 := BB.out.size; (have hz2' : wr.heap.size + 1 ≤ w2.heap.size := by have := hb2.size; simpa using this); have OW : Hid _ := (show ownsM w2 _ _ _ _ _ from (hown.out.below ((Below.refl _ wr).alloc (Nat.le_refl _) _)).below hb2); clear hb2 hown)
        | (at_builtin; refine wpList_append_M2 rfl _ _ 51 9 rfl w.heap.size 5 i0 Try.underlying51 Try.underlying9 hi hz0 hz1 hz2 (.slice (some ⟨gb, 0, none⟩) P.length cb) P rfl OW.out (Lib.uvarint s1) rfl (by rw [List.length_append]; omega) hsz2 ?_; intro v3 w3 hown3 hb3 hk3; clear OW; (have t3 : w3.cell? ⟨wr.heap.size, 1, none⟩ = some (.string (S s2)) := (World.cell?_of_block (hk3 wr.heap.size (by omega) (fun e => by have e1 : gb = wr.heap.size := (by simpa [Value.ownBlock] using e); omega))).trans t1); (have BB3 : Hid (Below w.heap.size w w3) := BB.out.trans hb3); have hsz3 := BB3.out.size; have OW3 : Hid _ := hown3; clear hown3 hb3 hk3)
        | (go_at_call 60; refine (Text_any s2 (by omega) _).mono ?_; rintro e w4 ⟨rfl, hb4⟩; (have BB4 : Hid (Below w.heap.size w w4) := bel_of BB3.out hb4 (Nat.le_refl _)); have hsz4 := BB4.out.size; have OW4 : Hid _ := ownsM.below OW3.out hb4; clear hb4)
        | (at_builtin; refine wpList_append_M2 rfl _ _ 51 9 rfl w.heap.size 5 i0 Try.underlying51 Try.underlying9 hi hz0 hz1 hz2 _ (P ++ Lib.uvarint s1) rfl OW4.out (txt s2) rfl (by rw [List.length_append, List.length_append]; omega) hsz4 ?_; intro v5 w5 hown5 hb5 hk5; (have BB5 : Hid (Below w.heap.size w w5) := BB4.out.trans hb5); have OW5 : Hid _ := hown5; clear hown5 hb5 hk5))
      go_roundw
      case rel => exact ⟨k + 1, by omega, by go_num, _, HP2, OW5, BB5.out⟩
      case measure => simp [intOf]; omega
    · have hkk : k = sp.length := by omega
      subst hkk
      have hki : ¬ (sp.length : Int) < (sp.length : Int) := by omega
      obtain ⟨g, cp, rfl, _, _, hcs⟩ := hown.out.cells
      have hPe : P = il sp := by have := HP.out; rwa [List.drop_length, show ils [] = [] from rfl, List.append_nil] at this
      subst hPe
      have hcv := run_convert_bytes_back (P := Try.prog) wr 51 9 5 ⟨g, 0, none⟩ cp (il sp) Try.underlying51 Try.underlying5 Try.underlying9
        (fun j hj => hcs j _ (by simp only [Lib.byteCells, List.getElem?_map]; rw [List.getElem?_eq_getElem hj]; rfl))
      change (convert 51 9 (.slice (some ⟨g, 0, none⟩) (il sp).length cp)).run Try.prog wr = .ok (.string (S (il sp))) wr at hcv
      have HB : Hid (Below w.heap.size w wr) := hbel
      clear hcs hown hbel HP
      by_cases hlong : (il sp).length ≤ 65536
      · have HT : Hid (tlr sp = (frm 3 (il sp) ++ four (frm 3 (il sp)).length, 0)) := by show _ = _; unfold tlr; rw [if_pos hlong]
        have hfl := frm3_len hlong
        have HPt : ∀ w, _ := fun w => Put_any 3 (il sp) hlong w
        have e2 : (((3 : UInt8).toNat : Nat) : Int) = 3 := rfl
        rw [e2] at HPt
        have q1 := S_size (frm 3 (il sp))
        have q2 : (S (four (frm 3 (il sp)).length)).size = 4 := S_size _
        have q3 : S (frm 3 (il sp)) ++ S (four (frm 3 (il sp)).length) = S (frm 3 (il sp) ++ four (frm 3 (il sp)).length) := S_append _ _
        go_wp2_with (first
          | (go_at_call 61; refine (HPt _).mono ?_; rintro e w2 ⟨rfl, hb2⟩; (have HB2 : Hid (Below w.heap.size w w2) := bel_of HB.out hb2 (Nat.le_refl _)); clear hb2)
          | (go_at_call 62; refine (length_any (frm 3 (il sp)).length (by omega) _).mono ?_; rintro e w3 ⟨rfl, hb3⟩; (have HB3 : Hid (Below w.heap.size w w3) := bel_of HB2.out hb3 (Nat.le_refl _)); clear hb3))
        go_ret2
        exact ⟨by rw [HT.out]; rfl, HB3.out⟩
      · have HT : Hid (tlr sp = ([], 13)) := by show _ = _; unfold tlr; rw [if_neg hlong]
        have HPt : ∀ w, _ := fun w => Put_long 3 (il sp) (by omega) (by omega) w
        have e2 : (((3 : UInt8).toNat : Nat) : Int) = 3 := rfl
        rw [e2] at HPt
        go_wp2_with (first
          | (go_at_call 61; refine (HPt _).mono ?_; rintro e w2 ⟨rfl, rfl⟩))
        go_ret2
        exact ⟨by rw [HT.out]; rfl, HB.out⟩

end Go.Proofs.Ytiaeicfmdnmeeaa

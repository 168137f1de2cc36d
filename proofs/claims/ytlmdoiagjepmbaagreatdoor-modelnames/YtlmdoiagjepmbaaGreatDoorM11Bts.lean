/-
  Package model: Bytes.
-/
import Derived.Test.YtlmdoiagjepmbaaGreatDoorM11Byt
namespace Go.Proofs.YtlmdoiagjepmbaaGreatDoor.m11
open Go.Proofs.YtlmdoiagjepmbaaGreatDoor.x10
open Go.RowKit Go.Shelf Go.Sort
open Go.Lib hiding intOf

theorem infoS : (Tryz.prog.info? 9).map (fun i => (i.zero, i.size, i.bytes)) = some (some (.string ⟨#[]⟩), 1, 16) := by kernel_rfl
theorem row_strs {w : World} {B : Nat} {fa : Option Addr} {fc : Nat} {f : List (List UInt8)} (h : w.ownsRow B 9 1 (.slice fa f.length fc) f.length (strCs f)) (hf : f ≠ []) : ∃ g, fa = some ⟨g, 0, none⟩ ∧ g < w.heap.size ∧ f.length ≤ fc ∧ ∀ (j : Nat) (hj : j < f.length), w.cell? ⟨g, 0 + j, none⟩ = some (.string (S f[j])) := by
  obtain ⟨h1, h2⟩ := h
  rcases h2 with ⟨-, h3⟩ | ⟨g, cap, cur, h3, h4, h5, h6, h7, h8, h9⟩
  · exact absurd (List.eq_nil_of_length_eq_zero h3) hf
  · cases h3
    refine ⟨g, rfl, (Array.getElem?_eq_some_iff.1 h5).1, h6, fun j hj => ?_⟩
    have h10 : (strCs f)[j]? = some (.string (S f[j])) := by simp [strCs, hj]
    rw [← h9, List.getElem?_take] at h10
    split at h10
    · rw [Array.getElem?_toList] at h10
      simpa [World.cell?, h5] using h10
    · cases h10
theorem shs_below {w w2 w5 : World} {rv : Value} {k : Nat} {xs : List Value} {o : Obj} (hb : Below w.heap.size w w2) (hr : w2.ownsRow w.heap.size 9 1 rv k xs) (hg : (w2.alloc o).grownBy w5 rv.ownBlock) : Below w.heap.size w w5 :=
  (hb.alloc hb.size _).grown hg (by have := hb.size; simp; omega) (fun k hk => (hr.lt k hk).1)
theorem ml2 : 1 ≤ maxLen := by unfold maxLen; decide
set_option maxRecDepth 100000 in
theorem one_str (w : World) (B : Nat) (s : List UInt8) (hB : B ≤ w.heap.size) : (w.alloc (.cells #[.string (S s)] 9)).ownsRow B 9 1 (.slice (some ⟨w.heap.size, 0, none⟩) 1 1) 1 (strCs [s]) := by
  refine ⟨rfl, .inr ⟨w.heap.size, 1, #[.string (S s)], rfl, hB, ?_, Nat.le_refl _, ml2, rfl, rfl⟩⟩
  show (w.heap.push _)[w.heap.size]? = _
  exact Array.getElem?_push_size

theorem nsB_part {l : List Nd} {x : Nd} (h : x ∈ l) : (nBs x).length ≤ (nsB l).length := piece_le (List.mem_cons_of_mem _ (List.mem_map_of_mem h))
set_option maxHeartbeats 2000000 in
set_option maxRecDepth 100000 in
theorem listBytesNode {w : World} {v : Value} {l : List Nd} (hv : Ns w v l) (hn : l.length ≤ 4398046511104) (hz : ∀ x ∈ l, Nz x) (hl : (nsB l).length ≤ 140737488355000) :
    Calls Tryz.prog 27 #[v, .func (.func 28) #[] #[]] w fun e w' => e = .returned (.string (S (nsB l))) ∧ Below w.heap.size w w' := by
  obtain ⟨i0, hi0, hz0, hz1, hz2⟩ := info_parts infoS
  have HV : Hid (Ns w v l) := hv
  have HQ : Hid (∀ x ∈ l, ∀ W, Calls Tryz.prog 28 #[nA x] W fun e w' => e = .returned (.string (S (nBs x))) ∧ Below W.heap.size W w') := fun x hx W => nodeBytes_any x (hz x hx) (Nat.le_trans (nsB_part hx) hl) W
  have HL : Hid ((nsB l).length ≤ 140737488355000) := hl
  have CU := Uint_any l.length (by omega) w
  have hwr : IntKind.u64.wrap (l.length : Int) = (l.length : Int) := by rw [IntKind.wrap_u64]; omega
  obtain ⟨a, cap, rfl, -⟩ := hv
  clear hl hz
  go_enter Tryz.func27, Tryz.ntmps27
  go_wp2_with (go_at_call 53; refine CU.mono ?_; rintro e w0 ⟨rfl, hb0⟩; (have HB0 : Hid (Below w.heap.size w w0) := hb0); clear hb0 CU)
  have HR0 : Hid ((w0.alloc (.cells #[.string (S (Lib.uvarint l.length))] 9)).ownsRow w.heap.size 9 1 (.slice (some ⟨w0.heap.size, 0, none⟩) 1 1) 1 (strCs [Lib.uvarint l.length])) := one_str w0 w.heap.size _ HB0.out.size
  go_loopw [15, 5] (fun v15 v5 wr => ∃ (j : Nat) (f : List (List UInt8)) (fa : Option Addr) (fc : Nat), v15 = .int .i64 (j : Int) ∧ v5 = .slice fa f.length fc ∧ j ≤ l.length ∧ f.length = j + 1 ∧ Hid (wr.ownsRow w.heap.size 9 1 (.slice fa f.length fc) f.length (strCs f)) ∧ Hid (Below w.heap.size w wr) ∧ Hid (f = Lib.uvarint l.length :: (l.take j).map nBs)) (fun v15 _ _ => l.length - (intOf v15).toNat)
  case atStart => exact ⟨0, [Lib.uvarint l.length], some ⟨w0.heap.size, 0, none⟩, 1, rfl, rfl, Nat.zero_le _, rfl, HR0.out, HB0.out.alloc HB0.out.size _, rfl⟩
  case round =>
    obtain ⟨j, f, fa, fc, rfl, rfl, hj, hf, HF, HB, HP⟩ := hrel
    have HFL : Hid (f.length = j + 1) := hf
    have hfl : f.length ≤ 4398046511105 := by omega
    clear hf
    by_cases hjl : j < l.length
    · have hjl' : (j : Int) < (l.length : Int) := by omega
      have hj0 : (0 : Int) ≤ (j : Int) := by omega
      obtain ⟨b', off, cap', hsl, -, hbl, hcell⟩ := HV.out.at hjl
      cases hsl
      have HC : Hid _ := hcell wr HB.out j hjl
      obtain ⟨m0, m1, m2, m3, m4, m5, m6⟩ := HC.out
      have HS : Hid (∀ W, Calls Tryz.prog 28 #[nA l[j]] W fun e w' => e = .returned (.string (S (nBs l[j]))) ∧ Below W.heap.size W w') := HQ.out l[j] (List.getElem_mem hjl)
      have HN : Hid (Lib.uvarint l.length :: (l.take (j + 1)).map nBs = f ++ [nBs l[j]]) := by show _ = _; rw [HP.out, List.take_succ_eq_append_getElem hjl, List.map_append]; rfl
      clear HC hcell HP HQ HV
      generalize l[j] = x at *
      obtain ⟨x0, x1, x2, x3, x4, x5, x6⟩ := x
      simp only at m0 m1 m2 m3 m4 m5 m6
      generalize nBs ⟨x0, x1, x2, x3, x4, x5, x6⟩ = z at *
      have ha1 : Below wr.heap.size wr (wr.alloc (.cells #[.int .i64 x0, .int .i64 x1, .int .i64 x2, .string (S x3), .string (S x4), .string (S x5), .int .i64 x6] 32)) := (Below.refl _ wr).alloc (Nat.le_refl _) _
      have hB1 : Below w.heap.size w (wr.alloc (.cells #[.int .i64 x0, .int .i64 x1, .int .i64 x2, .string (S x3), .string (S x4), .string (S x5), .int .i64 x6] 32)) := bel_of HB.out ha1 (Nat.le_refl _)
      have CG := HS.out (wr.alloc (.cells #[.int .i64 x0, .int .i64 x1, .int .i64 x2, .string (S x3), .string (S x4), .string (S x5), .int .i64 x6] 32))
      unfold nA at CG
      have HY0 : Hid (∀ w2, Below (wr.alloc (.cells #[.int .i64 x0, .int .i64 x1, .int .i64 x2, .string (S x3), .string (S x4), .string (S x5), .int .i64 x6] 32)).heap.size (wr.alloc (.cells #[.int .i64 x0, .int .i64 x1, .int .i64 x2, .string (S x3), .string (S x4), .string (S x5), .int .i64 x6] 32)) w2 → Below w.heap.size w w2 ∧ w2.ownsRow w.heap.size 9 1 (.slice fa f.length fc) f.length (strCs f)) := fun w2 hb => ⟨bel_of hB1 hb (Nat.le_refl _), (Ch.of_below (X := fun _ => False) (ha1.trans (hb.mono ha1.size))).row HF.out (fun _ _ e => e)⟩
      clear HS ha1 hB1
      go_wp2_with (first
        | (go_at_call 28; refine CG.mono ?_; rintro e w2 ⟨rfl, b1⟩; (have HY : Hid _ := HY0.out w2 b1); clear b1 CG HY0)
        | (at_builtin; refine wpList_append_own _ rfl _ _ 82 rfl w.heap.size 9 i0 _ 1 16 Tryz.underlying82 hi0 hz0 hz1 hz2 rfl (by decide) _ f.length (strCs f) rfl (HY.out.2.alloc _) ⟨w2.heap.size, 0, none⟩ 1 1 [.string (S z)] rfl rfl (new_one _ _ rfl _ _) (by simp [Value.oneCell']) (by unfold maxLen; omega) (by omega) (by have := HY.out.1.size; simp; omega) ?_; intro v5 w5 ho5 hg5 _; have HO5 : Hid _ := ho5; have HG5 : Hid _ := hg5; obtain ⟨a5, c5', rfl, -⟩ := row_slice ho5; clear ho5 hg5))
      go_roundw
      case rel =>
        have hlen : (f ++ [z]).length = f.length + 1 := by rw [List.length_append, List.length_singleton]
        refine ⟨j + 1, f ++ [z], a5, c5', by simp, by rw [hlen], by omega, by rw [hlen, HFL.out], ?_, shs_below HY.out.1 HY.out.2 HG5.out, by show _ = _; rw [HN.out]⟩
        show World.ownsRow _ _ _ _ _ _ _
        rw [hlen, strCs_snoc]
        exact HO5.out
      case measure => simp [intOf]; omega
    · have hjl' : ¬ (j : Int) < (l.length : Int) := by omega
      obtain rfl : j = l.length := by omega
      have HE : Hid (nsB l = f.flatten) := by show _ = _; rw [HP.out, List.take_length]; rfl
      obtain ⟨g, hfa, hgl, hcap, hcc⟩ := row_strs HF.out (by intro e; have := HFL.out; rw [e] at this; cases this)
      subst hfa
      have CT := together_any (o := 0) hcc hgl (by omega) hcap (by have := HL.out; rw [HE.out] at this; omega)
      have B1 : Hid (Below w.heap.size w wr) := HB.out
      have HE2 : Hid (S (nsB l) = S f.flatten) := by show _ = _; rw [HE.out]
      clear HQ HV HP HF HB hcc HL HFL HE
      generalize S f.flatten = r at CT HE2
      go_wp2_with (go_at_call 25; refine CT.mono ?_; rintro e w2 ⟨rfl, hb2⟩; (have B2 : Hid (Below w.heap.size w w2) := bel_of B1.out hb2 (Nat.le_refl _)); clear hb2 CT)
      go_ret
      rw [HE2.out]
      exact ⟨rfl, B2.out⟩

theorem fsB_part {l : List Fl} {x : Fl} (h : x ∈ l) : (fBs x).length ≤ (fsB l).length := piece_le (List.mem_cons_of_mem _ (List.mem_map_of_mem h))
set_option maxHeartbeats 2000000 in
set_option maxRecDepth 100000 in
theorem listBytesFlow {w : World} {v : Value} {l : List Fl} (hv : Fs w v l) (hn : l.length ≤ 4398046511104) (hz : ∀ x ∈ l, Fz x) (hl : (fsB l).length ≤ 140737488355000) :
    Calls Tryz.prog 29 #[v, .func (.func 30) #[] #[]] w fun e w' => e = .returned (.string (S (fsB l))) ∧ Below w.heap.size w w' := by
  obtain ⟨i0, hi0, hz0, hz1, hz2⟩ := info_parts infoS
  have HV : Hid (Fs w v l) := hv
  have HQ : Hid (∀ x ∈ l, ∀ W, Calls Tryz.prog 30 #[fA x] W fun e w' => e = .returned (.string (S (fBs x))) ∧ Below W.heap.size W w') := fun x hx W => flowBytes_any x (hz x hx) (Nat.le_trans (fsB_part hx) hl) W
  have HL : Hid ((fsB l).length ≤ 140737488355000) := hl
  have CU := Uint_any l.length (by omega) w
  have hwr : IntKind.u64.wrap (l.length : Int) = (l.length : Int) := by rw [IntKind.wrap_u64]; omega
  obtain ⟨a, cap, rfl, -⟩ := hv
  clear hl hz
  go_enter Tryz.func29, Tryz.ntmps29
  go_wp2_with (go_at_call 53; refine CU.mono ?_; rintro e w0 ⟨rfl, hb0⟩; (have HB0 : Hid (Below w.heap.size w w0) := hb0); clear hb0 CU)
  have HR0 : Hid ((w0.alloc (.cells #[.string (S (Lib.uvarint l.length))] 9)).ownsRow w.heap.size 9 1 (.slice (some ⟨w0.heap.size, 0, none⟩) 1 1) 1 (strCs [Lib.uvarint l.length])) := one_str w0 w.heap.size _ HB0.out.size
  go_loopw [15, 5] (fun v15 v5 wr => ∃ (j : Nat) (f : List (List UInt8)) (fa : Option Addr) (fc : Nat), v15 = .int .i64 (j : Int) ∧ v5 = .slice fa f.length fc ∧ j ≤ l.length ∧ f.length = j + 1 ∧ Hid (wr.ownsRow w.heap.size 9 1 (.slice fa f.length fc) f.length (strCs f)) ∧ Hid (Below w.heap.size w wr) ∧ Hid (f = Lib.uvarint l.length :: (l.take j).map fBs)) (fun v15 _ _ => l.length - (intOf v15).toNat)
  case atStart => exact ⟨0, [Lib.uvarint l.length], some ⟨w0.heap.size, 0, none⟩, 1, rfl, rfl, Nat.zero_le _, rfl, HR0.out, HB0.out.alloc HB0.out.size _, rfl⟩
  case round =>
    obtain ⟨j, f, fa, fc, rfl, rfl, hj, hf, HF, HB, HP⟩ := hrel
    have HFL : Hid (f.length = j + 1) := hf
    have hfl : f.length ≤ 4398046511105 := by omega
    clear hf
    by_cases hjl : j < l.length
    · have hjl' : (j : Int) < (l.length : Int) := by omega
      have hj0 : (0 : Int) ≤ (j : Int) := by omega
      obtain ⟨b', off, cap', hsl, -, hbl, hcell⟩ := HV.out.at hjl
      cases hsl
      have HC : Hid _ := hcell wr HB.out j hjl
      obtain ⟨m0, m1, m2⟩ := HC.out
      have HS : Hid (∀ W, Calls Tryz.prog 30 #[fA l[j]] W fun e w' => e = .returned (.string (S (fBs l[j]))) ∧ Below W.heap.size W w') := HQ.out l[j] (List.getElem_mem hjl)
      have HN : Hid (Lib.uvarint l.length :: (l.take (j + 1)).map fBs = f ++ [fBs l[j]]) := by show _ = _; rw [HP.out, List.take_succ_eq_append_getElem hjl, List.map_append]; rfl
      clear HC hcell HP HQ HV
      generalize l[j] = x at *
      obtain ⟨x0, x1, x2⟩ := x
      simp only at m0 m1 m2
      generalize fBs ⟨x0, x1, x2⟩ = z at *
      have ha1 : Below wr.heap.size wr (wr.alloc (.cells #[.int .i64 x0, .int .i64 x1, .string (S x2)] 37)) := (Below.refl _ wr).alloc (Nat.le_refl _) _
      have hB1 : Below w.heap.size w (wr.alloc (.cells #[.int .i64 x0, .int .i64 x1, .string (S x2)] 37)) := bel_of HB.out ha1 (Nat.le_refl _)
      have CG := HS.out (wr.alloc (.cells #[.int .i64 x0, .int .i64 x1, .string (S x2)] 37))
      unfold fA at CG
      have HY0 : Hid (∀ w2, Below (wr.alloc (.cells #[.int .i64 x0, .int .i64 x1, .string (S x2)] 37)).heap.size (wr.alloc (.cells #[.int .i64 x0, .int .i64 x1, .string (S x2)] 37)) w2 → Below w.heap.size w w2 ∧ w2.ownsRow w.heap.size 9 1 (.slice fa f.length fc) f.length (strCs f)) := fun w2 hb => ⟨bel_of hB1 hb (Nat.le_refl _), (Ch.of_below (X := fun _ => False) (ha1.trans (hb.mono ha1.size))).row HF.out (fun _ _ e => e)⟩
      clear HS ha1 hB1
      go_wp2_with (first
        | (go_at_call 30; refine CG.mono ?_; rintro e w2 ⟨rfl, b1⟩; (have HY : Hid _ := HY0.out w2 b1); clear b1 CG HY0)
        | (at_builtin; refine wpList_append_own _ rfl _ _ 82 rfl w.heap.size 9 i0 _ 1 16 Tryz.underlying82 hi0 hz0 hz1 hz2 rfl (by decide) _ f.length (strCs f) rfl (HY.out.2.alloc _) ⟨w2.heap.size, 0, none⟩ 1 1 [.string (S z)] rfl rfl (new_one _ _ rfl _ _) (by simp [Value.oneCell']) (by unfold maxLen; omega) (by omega) (by have := HY.out.1.size; simp; omega) ?_; intro v5 w5 ho5 hg5 _; have HO5 : Hid _ := ho5; have HG5 : Hid _ := hg5; obtain ⟨a5, c5', rfl, -⟩ := row_slice ho5; clear ho5 hg5))
      go_roundw
      case rel =>
        have hlen : (f ++ [z]).length = f.length + 1 := by rw [List.length_append, List.length_singleton]
        refine ⟨j + 1, f ++ [z], a5, c5', by simp, by rw [hlen], by omega, by rw [hlen, HFL.out], ?_, shs_below HY.out.1 HY.out.2 HG5.out, by show _ = _; rw [HN.out]⟩
        show World.ownsRow _ _ _ _ _ _ _
        rw [hlen, strCs_snoc]
        exact HO5.out
      case measure => simp [intOf]; omega
    · have hjl' : ¬ (j : Int) < (l.length : Int) := by omega
      obtain rfl : j = l.length := by omega
      have HE : Hid (fsB l = f.flatten) := by show _ = _; rw [HP.out, List.take_length]; rfl
      obtain ⟨g, hfa, hgl, hcap, hcc⟩ := row_strs HF.out (by intro e; have := HFL.out; rw [e] at this; cases this)
      subst hfa
      have CT := together_any (o := 0) hcc hgl (by omega) hcap (by have := HL.out; rw [HE.out] at this; omega)
      have B1 : Hid (Below w.heap.size w wr) := HB.out
      have HE2 : Hid (S (fsB l) = S f.flatten) := by show _ = _; rw [HE.out]
      clear HQ HV HP HF HB hcc HL HFL HE
      generalize S f.flatten = r at CT HE2
      go_wp2_with (go_at_call 25; refine CT.mono ?_; rintro e w2 ⟨rfl, hb2⟩; (have B2 : Hid (Below w.heap.size w w2) := bel_of B1.out hb2 (Nat.le_refl _)); clear hb2 CT)
      go_ret
      rw [HE2.out]
      exact ⟨rfl, B2.out⟩

set_option maxRecDepth 100000 in
set_option maxHeartbeats 2000000 in
theorem Bytes_any {w : World} {nv fv : Value} {P : Pc} (hp : Po w nv fv P) (hz : Pz P) (hl : (pBs P).length ≤ 140737488355000) : Calls Tryz.prog 11 #[pV P.id nv fv] w fun e w' => e = .returned (.string (S (pBs P))) ∧ Below w.heap.size w w' := by
  have hB1 : Below w.heap.size w (w.alloc (.cells #[.string (S P.id), nv, fv] 25)) := (Below.refl _ w).alloc (Nat.le_refl _) _
  have q1 : (txt P.id).length ≤ (pBs P).length := piece_le (by simp)
  have q2 : (nsB P.nodes).length ≤ (pBs P).length := piece_le (by simp)
  have q3 : (fsB P.flows).length ≤ (pBs P).length := piece_le (by simp)
  have q4 := txt_len P.id
  obtain ⟨b0, b1, b2, blt, -⟩ := Pb.new hp
  have HS : Hid (∀ W, Below (w.alloc (.cells #[.string (S P.id), nv, fv] 25)).heap.size (w.alloc (.cells #[.string (S P.id), nv, fv] 25)) W → W.cell? ⟨w.heap.size, 0, none⟩ = some (.string (S P.id)) ∧ W.cell? ⟨w.heap.size, 1, none⟩ = some nv ∧ W.cell? ⟨w.heap.size, 2, none⟩ = some fv) := fun W hW => ⟨(hW.cell (p := ⟨w.heap.size, 0, none⟩) blt).trans b0, (hW.cell (p := ⟨w.heap.size, 1, none⟩) blt).trans b1, (hW.cell (p := ⟨w.heap.size, 2, none⟩) blt).trans b2⟩
  have C1 : ∀ W, Below (w.alloc (.cells #[.string (S P.id), nv, fv] 25)).heap.size (w.alloc (.cells #[.string (S P.id), nv, fv] 25)) W → Calls Tryz.prog 26 #[.string (S P.id)] W fun e w' => e = .returned (.string (S (txt P.id))) ∧ Below (w.alloc (.cells #[.string (S P.id), nv, fv] 25)).heap.size (w.alloc (.cells #[.string (S P.id), nv, fv] 25)) w' := fun W hW => (Text_any P.id (by omega) W).mono fun e w' hh => ⟨hh.1, bel_of hW hh.2 (Nat.le_refl _)⟩
  have C2 : ∀ W, Below (w.alloc (.cells #[.string (S P.id), nv, fv] 25)).heap.size (w.alloc (.cells #[.string (S P.id), nv, fv] 25)) W → Calls Tryz.prog 27 #[nv, .func (.func 28) #[] #[]] W fun e w' => e = .returned (.string (S (nsB P.nodes))) ∧ Below (w.alloc (.cells #[.string (S P.id), nv, fv] 25)).heap.size (w.alloc (.cells #[.string (S P.id), nv, fv] 25)) w' := fun W hW => (listBytesNode (hp.ns.up (bel_of hB1 hW (Nat.le_refl _))) hz.nl hz.nz (by omega)).mono fun e w' hh => ⟨hh.1, bel_of hW hh.2 (Nat.le_refl _)⟩
  have C3 : ∀ W, Below (w.alloc (.cells #[.string (S P.id), nv, fv] 25)).heap.size (w.alloc (.cells #[.string (S P.id), nv, fv] 25)) W → Calls Tryz.prog 29 #[fv, .func (.func 30) #[] #[]] W fun e w' => e = .returned (.string (S (fsB P.flows))) ∧ Below (w.alloc (.cells #[.string (S P.id), nv, fv] 25)).heap.size (w.alloc (.cells #[.string (S P.id), nv, fv] 25)) w' := fun W hW => (listBytesFlow (hp.fs.up (bel_of hB1 hW (Nat.le_refl _))) hz.fl hz.fz (by omega)).mono fun e w' hh => ⟨hh.1, bel_of hW hh.2 (Nat.le_refl _)⟩
  have CT : ∀ W, Below (w.alloc (.cells #[.string (S P.id), nv, fv] 25)).heap.size (w.alloc (.cells #[.string (S P.id), nv, fv] 25)) W → Calls Tryz.prog 25 #[.slice (some ⟨W.heap.size, 0, none⟩) 3 3] (W.alloc (.cells #[.string (S (txt P.id)), .string (S (nsB P.nodes)), .string (S (fsB P.flows))] 9)) fun e w' => e = .returned (.string (S (pBs P))) ∧ Below (w.alloc (.cells #[.string (S P.id), nv, fv] 25)).heap.size (w.alloc (.cells #[.string (S P.id), nv, fv] 25)) w' := fun W hW => (together_lit W [txt P.id, nsB P.nodes, fsB P.flows] (by show 3 ≤ 100; omega) (by unfold pBs at hl; omega) 9).mono fun e w' hh => ⟨hh.1, bel_of hW hh.2 (Nat.le_refl _)⟩
  have B1 : Hid (Below w.heap.size w (w.alloc (.cells #[.string (S P.id), nv, fv] 25))) := hB1
  obtain ⟨na, nc, rfl, -⟩ := hp.ns
  obtain ⟨fa, fc, rfl, -⟩ := hp.fs
  unfold pV
  clear hp hz hB1 hl q1 q2 q3 q4
  generalize S (pBs P) = r at *
  generalize S (txt P.id) = r1 at *
  generalize S (nsB P.nodes) = r2 at *
  generalize S (fsB P.flows) = r3 at *
  go_enter Tryz.func11, Tryz.ntmps11
  go_wp2
  generalize w.alloc (.cells #[.string (S P.id), .slice na P.nodes.length nc, .slice fa P.flows.length fc] 25) = W1 at *
  go_region_held3 (fun W => W.cell? ⟨w.heap.size, 0, none⟩ = some (.string (S P.id)) ∧ W.cell? ⟨w.heap.size, 1, none⟩ = some (.slice na P.nodes.length nc) ∧ W.cell? ⟨w.heap.size, 2, none⟩ = some (.slice fa P.flows.length fc))
    (first | go_keep | exact HS.out _ (Below.refl _ _) | exact HS.out _ hX)
    (first
      | (go_at_call 26; refine (C1 _ (by first | exact Below.refl _ _ | exact (Below.refl _ _).drew | exact hX)).mono ?_; rintro e u1 ⟨rfl, hX⟩; clear C1)
      | (go_at_call 27; refine (C2 _ (by first | exact Below.refl _ _ | exact (Below.refl _ _).drew | exact hX)).mono ?_; rintro e u1 ⟨rfl, hX⟩; clear C2)
      | (go_at_call 29; refine (C3 _ (by first | exact Below.refl _ _ | exact (Below.refl _ _).drew | exact hX)).mono ?_; rintro e u1 ⟨rfl, hX⟩; clear C3)
      | (go_at_call 25; refine (CT _ (by first | exact Below.refl _ _ | exact (Below.refl _ _).drew | exact hX)).mono ?_; rintro e u1 ⟨rfl, hX⟩; (have B2 : Hid (Below w.heap.size w u1) := bel_of B1.out hX (Nat.le_refl _)); clear CT))
  all_goals
    go_wp2
    go_ret
    exact ⟨rfl, B2.out⟩
end Go.Proofs.YtlmdoiagjepmbaaGreatDoor.m11

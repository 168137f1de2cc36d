/-
  The document's VarsBytes: what it comes to.
-/
import Derived.Test.YtippnkendoghpaaV9Rgt2
import Derived.Test.YtippnkendoghpaaV9Byt
namespace Go.Proofs.Ytippnkendoghpaa
open Go.RowKit Go.Shelf Go.Sort
open Go.Lib hiding intOf

def rwf (l : List Vr) : List UInt8 := (l.map rowV).flatten
theorem rwf_next {l : List Vr} {i : Nat} (h : i < l.length) : rwf (l.take (i + 1)) = rwf (l.take i) ++ rowV l[i] := by
  unfold rwf
  rw [take_snoc9 h, List.map_append, List.flatten_append]
  simp only [List.map_cons, List.map_nil, List.flatten_cons, List.flatten_nil, List.append_nil]
theorem okV_name {x : Vr} (h : okV x = true) : x.1.data.toList.length ≤ 32 := by
  unfold okV namV at h
  simp only [Bool.and_eq_true, decide_eq_true_eq] at h
  exact h.1.1.1.2.2
theorem vbs_yes {l : List Vr} (h : rgt l = true) : vbs l = Lib.uvarint l.length ++ rwf l := by unfold vbs rwf; rw [if_pos h]

set_option maxHeartbeats 1000000 in
set_option maxRecDepth 100000 in
theorem dVb_any {w : World} {v : Value} {l : List Vr} (hv : Vs w v l) (hn : l.length ≤ 4611686018427387904) (hs : Sm9 l) :
    Calls Try.prog 47 #[v] w fun e w' => e = .returned (.string (S (vbs l))) ∧ Below w.heap.size w w' := by
  have CR := dRgt_any hv hn hs
  cases hr : rgt l with
  | false =>
    rw [hr] at CR
    have HE : Hid (vbs l = []) := by show _ = _; unfold vbs; rw [hr]; rfl
    clear hr hs hn hv
    go_enter Try.func47, Try.ntmps47
    go_wp2_with (go_at_call 21; refine CR.mono ?_; rintro e w1 ⟨rfl, b1⟩; have B1 : Hid (Below w.heap.size w w1) := b1; clear b1)
    go_ret
    rw [HE.out]
    exact ⟨rfl, B1.out⟩
  | true =>
    rw [hr] at CR
    obtain ⟨h16, -, ho⟩ := rgt_iff.1 hr
    have HOK : Hid (∀ x ∈ l, okV x = true) := ho
    have HG : Hid (vbs l = Lib.uvarint l.length ++ rwf l) := vbs_yes hr
    have HV : Hid (Vs w v l) := hv
    have HU : Hid (∀ W, Calls Try.prog 44 #[.int .u64 (l.length : Int)] W fun e w' => e = .returned (.string (S (Lib.uvarint l.length))) ∧ Below W.heap.size W w') := fun W => refUint_int _ _ rfl (by omega) W
    have hu10 : (Lib.uvarint l.length).length ≤ 10 := Lib.uvarint_length64 (by omega)
    obtain ⟨a, cap, rfl, -⟩ := hv
    clear hr ho
    go_enter Try.func47, Try.ntmps47
    go_wp2_with (first
      | (go_at_call 21; refine CR.mono ?_; rintro e w1 ⟨rfl, b1⟩; (have B1 : Hid (Below w.heap.size w w1) := b1); clear b1 CR)
      | (go_at_call 44; refine (HU.out _).mono ?_; rintro e w2 ⟨rfl, b2⟩; (have B2 : Hid (Below w.heap.size w w2) := bel_of B1.out b2 (Nat.le_refl _)); clear b2))
    go_loopw [4, 5] (fun v4 v5 wr => ∃ i : Nat, i ≤ l.length ∧ v4 = .string (S (Lib.uvarint l.length ++ rwf (l.take i))) ∧ v5 = .int .i64 (i : Int) ∧ Hid ((rwf (l.take i)).length ≤ i * 1200 ∧ Below w.heap.size w wr)) (fun _ v5 _ => l.length - (intOf v5).toNat)
    case atStart => exact ⟨0, Nat.zero_le _, by simp [rwf], rfl, by simp [rwf], B2.out⟩
    case round =>
      obtain ⟨i, hi, rfl, rfl, HB⟩ := hrel
      by_cases hlt : i < l.length
      · have hlt' : (i : Int) < (l.length : Int) := by omega
        have hi0' : (0 : Int) ≤ (i : Int) := by omega
        obtain ⟨b, off, cap', hsl, hbl, hcell⟩ := HV.out.at hlt
        cases hsl
        obtain ⟨s0, s1, s2, s3⟩ := hcell wr HB.out.2
        have hx := hs l[i] (List.getElem_mem hlt)
        have hk := okV_name (HOK.out l[i] (List.getElem_mem hlt))
        have CT := refText_any l[i].1.data.toList (by omega)
        rw [S_of] at CT
        have CY := dByt_any l[i].2 hx.2
        have hy := bytV_len hx.2
        have ht : (txt l[i].1.data.toList).length ≤ 42 := by have := Lib.uvarint_length64 (show l[i].1.data.toList.length < 18446744073709551616 by omega); rw [txt_length]; omega
        have hA : (Lib.uvarint l.length ++ rwf (l.take i)).length ≤ 20000 := by rw [List.length_append]; have := HB.out.1; omega
        have HNX : Hid (rwf (l.take (i + 1)) = rwf (l.take i) ++ (txt l[i].1.data.toList ++ bytV l[i].2)) := rwf_next hlt
        have HLN : Hid ((rwf (l.take (i + 1))).length ≤ (i + 1) * 1200) := by
          show _ ≤ _
          rw [HNX.out, List.length_append, List.length_append]; have := HB.out.1; omega
        have HC : Hid (Below w.heap.size w wr) := HB.out.2
        have hbl' : b < wr.heap.size := Nat.lt_of_lt_of_le hbl HB.out.2.size
        have a1 := S_append (Lib.uvarint l.length ++ rwf (l.take i)) (txt l[i].1.data.toList)
        have a2 := S_append (Lib.uvarint l.length ++ rwf (l.take i) ++ txt l[i].1.data.toList) (bytV l[i].2)
        have HAA : Hid (S (Lib.uvarint l.length ++ rwf (l.take i) ++ txt l[i].1.data.toList ++ bytV l[i].2) = S (Lib.uvarint l.length ++ rwf (l.take (i + 1)))) := by show _ = _; rw [HNX.out]; simp only [List.append_assoc]
        have z1 := S_size (Lib.uvarint l.length ++ rwf (l.take i))
        have z2 := S_size (txt l[i].1.data.toList)
        have z3 := S_size (Lib.uvarint l.length ++ rwf (l.take i) ++ txt l[i].1.data.toList)
        have z4 := S_size (bytV l[i].2)
        have hA2 : (Lib.uvarint l.length ++ rwf (l.take i) ++ txt l[i].1.data.toList).length ≤ 20100 := by rw [List.length_append]; omega
        unfold vA at CY
        rw [← z1] at hA
        rw [← z2] at ht
        rw [← z3] at hA2
        rw [← z4] at hy
        clear HB hcell hx hk HNX z1 z2 z3 z4
        generalize S (Lib.uvarint l.length ++ rwf (l.take i)) = A at *
        generalize S (txt l[i].1.data.toList) = T at *
        generalize S (Lib.uvarint l.length ++ rwf (l.take i) ++ txt l[i].1.data.toList) = A2 at *
        generalize S (bytV l[i].2) = Y at *
        generalize S (Lib.uvarint l.length ++ rwf (l.take i) ++ txt l[i].1.data.toList ++ bytV l[i].2) = A3 at *
        generalize l[i].1 = nm at *
        generalize l[i].2.1 = k at *
        generalize l[i].2.2.1 = n at *
        generalize S l[i].2.2.2 = s at *
        have n1 : ¬ 9223372036854775807 < A.size + T.size := by omega
        have n2 : ¬ 9223372036854775807 < A2.size + Y.size := by omega
        clear hA ht hA2 hy
        go_wp2_with (fail)
        go_region_held3 (fun w' => w'.cell? ⟨b, off + i * 4, none⟩ = some (.string nm) ∧ w'.cell? ⟨b, off + i * 4 + 1, none⟩ = some (.int .i64 k) ∧ w'.cell? ⟨b, off + i * 4 + 2, none⟩ = some (.int .i64 n) ∧ w'.cell? ⟨b, off + i * 4 + 3, none⟩ = some (.string s))
          (first
            | go_keep
            | exact ⟨s0, s1, s2, s3⟩)
          (first
            | (go_at_call 46; refine (CT _).mono ?_; rintro e u1 ⟨rfl, bu1⟩; (replace HC : Hid (Below w.heap.size w u1) := by first | exact bel_of HC.out.drew bu1 (Nat.le_refl _) | exact bel_of HC.out bu1 (Nat.le_refl _)); (replace s0 := (bu1.cell (p := ⟨b, off + i * 4, none⟩) hbl').trans s0); (replace s1 := (bu1.cell (p := ⟨b, off + i * 4 + 1, none⟩) hbl').trans s1); (replace s2 := (bu1.cell (p := ⟨b, off + i * 4 + 2, none⟩) hbl').trans s2); (replace s3 := (bu1.cell (p := ⟨b, off + i * 4 + 3, none⟩) hbl').trans s3); (replace hbl' : b < u1.heap.size := Nat.lt_of_lt_of_le hbl' bu1.size); clear bu1)
            | (go_at_call 75; refine (CY _).mono ?_; rintro e u2 ⟨rfl, bu2⟩; (replace HC : Hid (Below w.heap.size w u2) := by first | exact bel_of HC.out.drew bu2 (Nat.le_refl _) | exact bel_of HC.out bu2 (Nat.le_refl _)); (replace s0 := (bu2.cell (p := ⟨b, off + i * 4, none⟩) hbl').trans s0); (replace s1 := (bu2.cell (p := ⟨b, off + i * 4 + 1, none⟩) hbl').trans s1); (replace s2 := (bu2.cell (p := ⟨b, off + i * 4 + 2, none⟩) hbl').trans s2); (replace s3 := (bu2.cell (p := ⟨b, off + i * 4 + 3, none⟩) hbl').trans s3); (replace hbl' : b < u2.heap.size := Nat.lt_of_lt_of_le hbl' bu2.size); clear bu2))
        all_goals
          go_wp2
          go_roundw
          case rel => exact ⟨i + 1, by omega, by rw [HAA.out], by simp, HLN.out, HC.out⟩
          case measure => simp [intOf]; omega
      · obtain rfl : i = l.length := by omega
        have hlt' : ¬ (l.length : Int) < (l.length : Int) := by omega
        have hbw : Hid (Below w.heap.size w wr) := HB.out.2
        clear HB
        go_wp2
        go_ret
        rw [HG.out]
        exact ⟨rfl, hbw.out⟩
end Go.Proofs.Ytippnkendoghpaa

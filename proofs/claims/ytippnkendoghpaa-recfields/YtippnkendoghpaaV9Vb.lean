/-
  Package value's VarsBytes: what it comes to.
-/
import Derived.Test.YtippnkendoghpaaV9Dvb
import Derived.Test.YtippnkendoghpaaV9Bld
namespace Go.Proofs.Ytippnkendoghpaa
open Go.RowKit Go.Shelf Go.Sort
open Go.Lib hiding intOf

theorem cell_same9 {w w' : World} {k : Nat} (h : w'.heap[k]? = w.heap[k]?) (j : Nat) : w'.cell? ⟨k, j, none⟩ = w.cell? ⟨k, j, none⟩ := World.cell?_of_block (w := w) h
theorem alloc_at9 (w : World) (o : Obj) : (w.alloc o).heap[w.heap.size]? = some o := by
  show (w.heap.push o)[w.heap.size]? = some o
  exact Array.getElem?_push_size
/-- a variable's own box -/
def xO (nm : ByteArray) (k n : Int) (s : ByteArray) : Obj := .cells #[.string nm, .int .i64 k, .int .i64 n, .string s] 54
theorem xO_kept {w w1 w2 : World} {B : Nat} {nm s : ByteArray} {k n : Int} (hB : B < w.heap.size) (h1 : Below (w.alloc (xO nm k n s)).heap.size (w.alloc (xO nm k n s)) w1) (h2 : Kp w1 w2 B B) (j : Nat) : w2.cell? ⟨w.heap.size, j, none⟩ = (w.alloc (xO nm k n s)).cell? ⟨w.heap.size, j, none⟩ := by
  have e1 : w1.heap[w.heap.size]? = some (xO nm k n s) := (h1.block _ (by rw [World.size_alloc]; exact Nat.lt_succ_self _)).trans (alloc_at9 _ _)
  have e2 := h2.oth _ _ e1 (fun e => by cases e; exact Nat.lt_irrefl _ hB) (fun c fz e => by cases e)
  exact cell_same9 (e2.trans (alloc_at9 _ _).symm) j

set_option maxHeartbeats 1000000 in
set_option maxRecDepth 100000 in
theorem Vb_any {w : World} {v : Value} {l : List Vr} (hv : Vs w v l) (hn : l.length ≤ 4611686018427387904) (hs : Sm9 l) :
    Calls Try.prog 72 #[v] w fun e w' => e = .returned (.string (S (vbs l))) ∧ Below w.heap.size w w' := by
  have CR := Right_any hv hn hs
  cases hr : rgt l with
  | false =>
    rw [hr] at CR
    have HE : Hid (vbs l = []) := by show _ = _; unfold vbs; rw [hr]; rfl
    clear hr hs hn hv
    go_enter Try.func72, Try.ntmps72
    go_wp2_with (go_at_call 36; refine CR.mono ?_; rintro e w1 ⟨rfl, b1⟩; have B1 : Hid (Below w.heap.size w w1) := b1; clear b1)
    go_ret
    rw [HE.out]
    exact ⟨rfl, B1.out⟩
  | true =>
    rw [hr] at CR
    obtain ⟨h16, -, ho⟩ := rgt_iff.1 hr
    have HOK : Hid (∀ x ∈ l, okV x = true) := ho
    have HG : Hid (vbs l = Lib.uvarint l.length ++ rwf l) := vbs_yes hr
    have HV : Hid (Vs w v l) := hv
    have HU : Hid (∀ W, Calls Try.prog 60 #[.int .u64 (l.length : Int)] W fun e w' => e = .returned (.string (S (Lib.uvarint l.length))) ∧ Below W.heap.size W w') := fun W => Uint_any _ (by omega) W
    have hu10 : (Lib.uvarint l.length).length ≤ 10 := Lib.uvarint_length64 (by omega)
    obtain ⟨a, cap, rfl, -⟩ := hv
    clear hr ho
    go_enter Try.func72, Try.ntmps72
    go_wp2_with (first
      | (go_at_call 36; refine CR.mono ?_; rintro e w1 ⟨rfl, b1⟩; (have B1 : Hid (Below w.heap.size w w1) := b1); (have D1 : Hid (Bd9 (w1.alloc (.cells #[.pointer none, .slice none 0 0] 73)) w1.heap.size w1.heap.size []) := Bd9.new w1); clear b1 CR)
      | (go_at_call 60; refine (HU.out _).mono ?_; rintro e w2 ⟨rfl, b2⟩; (have D2 : Hid (Bd9 w2 w1.heap.size w1.heap.size []) := D1.out.up b2); (have B2 : Hid (Below w1.heap.size w1 w2) := bel_of ((Below.refl _ _).alloc (Nat.le_refl _) _) b2 (Nat.le_refl _)); (have hz2 : Hid (w1.heap.size < w2.heap.size) := by have h1 := b2.size; rw [World.size_alloc] at h1; exact h1); clear b2 D1)
      | (go_at_call 37; refine (wStr D2.out (Lib.uvarint l.length) (by rw [List.length_nil]; omega)).mono ?_; rintro e w3 ⟨rfl, h3, k3⟩; (have D3 : Hid (Bd9 w3 w1.heap.size w1.heap.size (Lib.uvarint l.length ++ rwf (l.take 0))) := by show Bd9 _ _ _ _; simpa [rwf] using h3); (have B3' : Hid (Below w.heap.size w w3) := B1.out.trans ((B2.out.trans k3.bel).mono B1.out.size)); (have hz3 : Hid (w1.heap.size < w3.heap.size) := Nat.lt_of_lt_of_le hz2.out k3.bel.size); clear h3 k3 D2 B2 hz2))
    go_loopw [16] (fun v16 wr => ∃ i : Nat, i ≤ l.length ∧ v16 = .int .i64 (i : Int) ∧ Hid ((rwf (l.take i)).length ≤ i * 1200 ∧ Bd9 wr w1.heap.size w1.heap.size (Lib.uvarint l.length ++ rwf (l.take i)) ∧ w1.heap.size < wr.heap.size ∧ Below w.heap.size w wr)) (fun v16 _ => l.length - (intOf v16).toNat)
    case atStart => exact ⟨0, Nat.zero_le _, rfl, by simp [rwf], D3.out, hz3.out, B3'.out⟩
    case round =>
      obtain ⟨i, hi, rfl, HB⟩ := hrel
      by_cases hlt : i < l.length
      · have hlt' : (i : Int) < (l.length : Int) := by omega
        have hi0' : (0 : Int) ≤ (i : Int) := by omega
        obtain ⟨b, off, cap', hsl, hbl, hcell⟩ := HV.out.at hlt
        cases hsl
        obtain ⟨s0, s1, s2, s3⟩ := hcell wr HB.out.2.2.2
        have hx := hs l[i] (List.getElem_mem hlt)
        have hk := okV_name (HOK.out l[i] (List.getElem_mem hlt))
        have CT := Text_any l[i].1.data.toList (by omega)
        rw [S_of] at CT
        have CY := Bytes_any l[i].2 hx.2
        have hy := bytV_len hx.2
        have ht : (txt l[i].1.data.toList).length ≤ 42 := by have := Lib.uvarint_length64 (show l[i].1.data.toList.length < 18446744073709551616 by omega); rw [txt_length]; omega
        have hA : (Lib.uvarint l.length ++ rwf (l.take i)).length ≤ 20000 := by rw [List.length_append]; have := HB.out.1; omega
        have HNX : Hid (rwf (l.take (i + 1)) = rwf (l.take i) ++ (txt l[i].1.data.toList ++ bytV l[i].2)) := rwf_next hlt
        have HLN : Hid ((rwf (l.take (i + 1))).length ≤ (i + 1) * 1200) := by
          show _ ≤ _
          rw [HNX.out, List.length_append, List.length_append]; have := HB.out.1; omega
        have HAA : Hid (Lib.uvarint l.length ++ rwf (l.take i) ++ txt l[i].1.data.toList ++ bytV l[i].2 = Lib.uvarint l.length ++ rwf (l.take (i + 1))) := by show _ = _; rw [HNX.out]; simp only [List.append_assoc]
        have D4 : Hid (Bd9 wr w1.heap.size w1.heap.size (Lib.uvarint l.length ++ rwf (l.take i))) := HB.out.2.1
        have hz : w1.heap.size < wr.heap.size := HB.out.2.2.1
        have HC : Hid (Below w.heap.size w wr) := HB.out.2.2.2
        have hz1 : w.heap.size ≤ w1.heap.size := B1.out.size
        unfold vA at CY
        clear HB hcell hx hk HNX D3 B3'
        generalize Lib.uvarint l.length ++ rwf (l.take i) = A at *
        generalize txt l[i].1.data.toList = T at *
        generalize bytV l[i].2 = Y at *
        generalize l[i].1 = nm at *
        generalize l[i].2.1 = k at *
        generalize l[i].2.2.1 = n at *
        generalize S l[i].2.2.2 = s at *
        go_wp2_with (first
          | (go_at_call 68; refine (CT _).mono ?_; rintro e w5 ⟨rfl, b5⟩; (have B5 : Hid (Below (wr.alloc (xO nm k n s)).heap.size (wr.alloc (xO nm k n s)) w5) := b5); (have D5 : Hid (Bd9 w5 w1.heap.size w1.heap.size A) := (D4.out.alloc _).up b5); clear b5 D4 CT s0 s1 s2 s3)
          | (go_at_call 37; refine (wStr D5.out T (by omega)).mono ?_; rintro e w6 ⟨rfl, h6, k6⟩; (have D6 : Hid (Bd9 w6 w1.heap.size w1.heap.size (A ++ T)) := h6); (have s1 := (xO_kept hz B5.out k6 1).trans (World.cell?_alloc_new _ _ _ _)); (have s2 := (xO_kept hz B5.out k6 2).trans (World.cell?_alloc_new _ _ _ _)); (have s3 := (xO_kept hz B5.out k6 3).trans (World.cell?_alloc_new _ _ _ _)); (have B6 : Hid (Below w.heap.size w w6) := (HC.out.trans (((Below.refl _ _).alloc (Nat.le_refl _) (xO nm k n s)).mono HC.out.size)).trans ((B5.out.mono (by have := HC.out.size; rw [World.size_alloc]; omega)).trans (k6.bel.mono hz1))); (have hz6 : w1.heap.size < w6.heap.size := by have h1 := B5.out.size; have h2 := k6.bel.size; rw [World.size_alloc] at h1; omega); clear h6 k6 D5 B5 HC)
          | (go_at_call 91; refine (CY _).mono ?_; rintro e w7 ⟨rfl, b7⟩; (have D7 : Hid (Bd9 w7 w1.heap.size w1.heap.size (A ++ T)) := D6.out.up b7); (have B7 : Hid (Below w.heap.size w w7) := bel_of B6.out b7 (Nat.le_refl _)); (have hz7 : w1.heap.size < w7.heap.size := Nat.lt_of_lt_of_le hz6 b7.size); clear b7 D6 B6 CY hz6)
          | (go_at_call 37; refine (wStr D7.out Y (by rw [List.length_append]; omega)).mono ?_; rintro e w8 ⟨rfl, h8, k8⟩; (have D8 : Hid (Bd9 w8 w1.heap.size w1.heap.size (Lib.uvarint l.length ++ rwf (l.take (i + 1)))) := by show Bd9 _ _ _ _; rw [← HAA.out]; exact h8); (have B8 : Hid (Below w.heap.size w w8) := B7.out.trans (k8.bel.mono hz1)); (have hz8 : Hid (w1.heap.size < w8.heap.size) := Nat.lt_of_lt_of_le hz7 k8.bel.size); clear h8 k8 D7 B7 hz7))
        go_roundw
        case rel => exact ⟨i + 1, by omega, by simp, HLN.out, D8.out, hz8.out, B8.out⟩
        case measure => simp [intOf]; omega
      · obtain rfl : i = l.length := by omega
        have hlt' : ¬ (l.length : Int) < (l.length : Int) := by omega
        have D9 : Hid (Bd9 wr w1.heap.size w1.heap.size (vbs l)) := by show Bd9 _ _ _ _; rw [HG.out]; have := HB.out.2.1; rw [List.take_length] at this; exact this
        have hbw : Hid (Below w.heap.size w wr) := HB.out.2.2.2
        have hz1 : w.heap.size ≤ w1.heap.size := B1.out.size
        clear HB D3 B3'
        go_wp2_with (go_at_call 38; refine (bStr D9.out).mono ?_; rintro e w3 ⟨rfl, k3⟩; (have H3 : Hid (Below w.heap.size w w3) := hbw.out.trans (k3.bel.mono hz1)); clear k3)
        go_ret
        exact ⟨rfl, H3.out⟩
end Go.Proofs.Ytippnkendoghpaa

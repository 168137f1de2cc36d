/-
  Package book's Ready: the jobs of a type that nobody has, as a range.
-/
import Derived.Test.YthmfcloecmnfnaaGreatB16Fre
import Derived.Test.YthmfcloecmnfnaaGreatXSeq2
namespace Go.Proofs.YthmfcloecmnfnaaGreat.f13
open Go.RowKit Go.Shelf Go.Sort
open Go.Lib hiding intOf

open Go.Proofs.YthmfcloecmnfnaaGreat
def rdyq (kind : List UInt8) (j : Jb) : Bool := j.typ == kind && (j.wkr.isEmpty && decide (0 < j.retr))
/-- those among the first ones -/
def rdyT (kind : List UInt8) (l : List Jb) (i : Nat) : List (Jb × Nat) := (l.take i).zipIdx.filter (fun p => rdyq kind p.1)
theorem rdyT_succ {kind : List UInt8} {l : List Jb} {i : Nat} (h : i < l.length) : rdyT kind l (i + 1) = rdyT kind l i ++ if rdyq kind l[i] then [(l[i], i)] else [] := by
  unfold rdyT
  rw [List.take_succ_eq_append_getElem h, List.zipIdx_append, List.filter_append, List.length_take, Nat.min_eq_left (by omega)]
  congr 1
  simp [List.zipIdx_cons, List.filter_cons]
theorem rdyT_yes {kind : List UInt8} {l : List Jb} {i : Nat} (h : i < l.length) (hq : rdyq kind l[i] = true) : rdyT kind l (i + 1) = rdyT kind l i ++ [(l[i], i)] := by rw [rdyT_succ h, hq]; rfl
theorem rdyT_no {kind : List UInt8} {l : List Jb} {i : Nat} (h : i < l.length) (hq : rdyq kind l[i] = false) : rdyT kind l (i + 1) = rdyT kind l i := by rw [rdyT_succ h, hq]; simp
theorem rdyT_le {kind : List UInt8} {l : List Jb} {i : Nat} : rdyT kind l i <+: rdyT kind l l.length := by
  unfold rdyT
  rw [List.take_length]
  conv => rhs; rw [← List.take_append_drop i l, List.zipIdx_append, List.filter_append]
  exact List.prefix_append _ _
theorem rdyT_pre {kind : List UInt8} {l : List Jb} {i : Nat} (h : i < l.length) (hq : rdyq kind l[i] = true) : rdyT kind l i ++ [(l[i], i)] <+: rdyT kind l l.length := by rw [← rdyT_yes h hq]; exact rdyT_le
def encJ (p : Jb × Nat) : Array Value := #[.int .i64 (p.2 : Int), .agg (Jb.c p.1).toArray]
set_option maxHeartbeats 8000000 in
set_option maxRecDepth 100000 in
theorem ready1_runs {W1 : World} {bj bk base : Nat} {jv : Value} {kind : List UInt8} {l : List Jb} {X : Nat → Prop} (hbj : Bx W1 bj jv 26) (hbk : Bx W1 bk (.string (S kind)) 9) (hrow : W1.ownsRow base 46 6 jv l.length (l.flatMap Jb.c)) (hX : ∀ x, jv.ownBlock = some x → X x) (hl : l.length < 4611686018427387904) :
    Runs encJ 22 #[.pointer (some ⟨bj, 0, none⟩), .pointer (some ⟨bk, 0, none⟩)] (rdyT kind l l.length) (fun x => X x ∨ x = bj ∨ x = bk) W1 := by
  intro y J Jx hC
  have hst := hC.start W1 (Below.refl _ _)
  have h0 := hbj.cell
  obtain ⟨ja, jc, rfl, -⟩ := row_slice hrow
  have HRow : Hid (W1.ownsRow base 46 6 (.slice ja l.length jc) l.length (l.flatMap Jb.c)) := hrow
  have HR : Hid ((0 < l.length → ∃ g, ja = some ⟨g, 0, none⟩) ∧ (∀ x, (Value.slice ja l.length jc).ownBlock = some x → X x)) := ⟨fun h => by
    rcases hrow.2 with ⟨e, h0⟩ | ⟨g, cap', cur, e, -⟩
    · omega
    · cases e; exact ⟨g, rfl⟩, hX⟩
  have HBx : Hid (Bx W1 bj (.slice ja l.length jc) 26 ∧ Bx W1 bk (.string (S kind)) 9) := ⟨hbj, hbk⟩
  clear hrow hX hbj hbk
  refine (callsIn_wide (n := 9)).1 ?_
  refine callsIn_of_wp Tryz.func22 rfl trivial ?_ rfl
  simp only [Tryz.ntmps22, List.size_toArray, List.length_cons, List.length_nil, Nat.reduceAdd, Nat.reduceSub, Array.replicate_succ, Array.replicate_zero, List.push_toArray, List.append_toArray, List.nil_append, List.cons_append]
  rcases id hC.yk with ⟨ly, rfl⟩ | ⟨gf, caps, rfl, eg⟩
  · have HC : Hid _ := hC
    clear hC
    gi_wp2
    gi_loopw [8] (fun v8 wr => ∃ i : Nat, v8 = .int .i64 (i : Int) ∧ i ≤ l.length ∧ J W1.heap.size (rdyT kind l i) wr ∧ Kq (fun x => X x ∨ x = bj ∨ x = bk) W1 wr) (fun v8 _ => l.length - (intOf v8).toNat)
    case atStart => exact ⟨0, rfl, Nat.zero_le _, hst, Kq.refl _ _⟩
    case round =>
      obtain ⟨i, rfl, hi, hJ, hq⟩ := hrel
      by_cases hlt : i < l.length
      · obtain ⟨g1, hg1⟩ : ∃ g, ja = some ⟨g, 0, none⟩ := HR.out.1 (by omega)
        subst hg1
        have hgx : X g1 := HR.out.2 g1 rfl
        have HM : Hid (∀ (n : Nat) (u : Value), (Jb.c l[i])[n]? = some u → wr.cell? ⟨g1, i * 6 + n, none⟩ = some u) := fun n u hu => kq_cell hq (p := ⟨g1, i * 6 + n, none⟩) (.inl hgx) (row_cell HRow.out (by
          have hn : n < 6 := by have := (List.getElem?_eq_some_iff.1 hu).1; simpa [Jb.c] using this
          rw [fm_get Jb.k _ i n hn, List.getElem?_eq_getElem hlt]; exact hu))
        have mk := (kq_bx hq (.inr (.inr rfl)) HBx.out.2).cell
        have HY : Hid (rdyq kind l[i] = true → ∀ W, Go.Proofs.YthmfcloecmnfnaaGreat.Sb W1.heap.size W1.heap.size wr W → Yd _ #[.int .i64 (i : Int), .agg (Jb.c l[i]).toArray] W _) := fun hqq W hs => HC.out.go W1.heap.size (rdyT kind l i) (l[i], i) wr W hJ hs (rdyT_pre hlt hqq)
        have HS : Hid (∀ W, Below wr.heap.size wr W → rdyq kind l[i] = false → J W1.heap.size (rdyT kind l (i + 1)) W) := fun W hW hqq => by rw [rdyT_no hlt hqq]; exact HC.out.st _ _ _ _ hJ (Go.Proofs.YthmfcloecmnfnaaGreat.Sb.of_below hW)
        have HT : Hid (rdyq kind l[i] = true → rdyT kind l i ++ [(l[i], i)] = rdyT kind l (i + 1)) := fun hqq => (rdyT_yes hlt hqq).symm
        have hki : (i : Int) < (l.length : Int) := by omega
        clear hJ
        generalize l[i] = j at *
        obtain ⟨j0, j1, j2, j3, j4, j5⟩ := j
        simp only [Jb.c] at HM HY
        have m0 := HM.out 0 _ rfl
        have m1 := HM.out 1 _ rfl
        have m2 := HM.out 2 _ rfl
        have m3 := HM.out 3 _ rfl
        have m4 := HM.out 4 _ rfl
        have m5 := HM.out 5 _ rfl
        simp only [Nat.add_zero] at m0
        have hQ : rdyq kind ⟨j0, j1, j2, j3, j4, j5⟩ = (j2 == kind && (j4.isEmpty && decide (0 < j3))) := rfl
        obtain ⟨Wj, hWj⟩ : ∃ Wj, wr.alloc (.cells #[.int .u64 (j0 : Int), .int .u64 (j1 : Int), .string (S j2), .int .i64 j3, .string (S j4), .int .i64 j5] 46) = Wj := ⟨_, rfl⟩
        have hbj : Below wr.heap.size wr Wj := by rw [← hWj]; exact (Below.refl _ wr).alloc (Nat.le_refl _) _
        have hsj : Wj.heap.size = wr.heap.size + 1 := by rw [← hWj]; simp
        have hoj : Wj.heap[wr.heap.size]? = some (.cells #[.int .u64 (j0 : Int), .int .u64 (j1 : Int), .string (S j2), .int .i64 j3, .string (S j4), .int .i64 j5] 46 (0, 0)) := by rw [← hWj]; exact heap_alloc_new wr _
        have n0 : Wj.cell? ⟨wr.heap.size, 0, none⟩ = some (.int .u64 (j0 : Int)) := by simp [World.cell?, hoj]
        have n1 : Wj.cell? ⟨wr.heap.size, 1, none⟩ = some (.int .u64 (j1 : Int)) := by simp [World.cell?, hoj]
        have n2 : Wj.cell? ⟨wr.heap.size, 2, none⟩ = some (.string (S j2)) := by simp [World.cell?, hoj]
        have n3 : Wj.cell? ⟨wr.heap.size, 3, none⟩ = some (.int .i64 j3) := by simp [World.cell?, hoj]
        have n4 : Wj.cell? ⟨wr.heap.size, 4, none⟩ = some (.string (S j4)) := by simp [World.cell?, hoj]
        have n5 : Wj.cell? ⟨wr.heap.size, 5, none⟩ = some (.int .i64 j5) := by simp [World.cell?, hoj]
        have mk2 := (hbj.cell (p := ⟨bk, 0, none⟩) (World.block_lt_of_cell? _ _ mk)).trans mk
        have CF := free_any (w := Wj) ⟨j0, j1, j2, j3, j4, j5⟩
        simp only [Jb.c] at CF
        have HBJ : Hid (Below wr.heap.size wr Wj ∧ Wj.heap.size = wr.heap.size + 1 ∧ Wj.heap[wr.heap.size]? = some (.cells #[.int .u64 (j0 : Int), .int .u64 (j1 : Int), .string (S j2), .int .i64 j3, .string (S j4), .int .i64 j5] 46 (0, 0))) := ⟨hbj, hsj, hoj⟩
        clear hbj hsj hoj HM
        have farm : True := trivial
        by_cases k1 : j2 = kind
        · subst k1
          by_cases k2 : j4.isEmpty = true
          · by_cases k3 : 0 < j3
            · have hqq : rdyq j2 ⟨j0, j1, j2, j3, j4, j5⟩ = true := by rw [hQ]; simp [k2, k3]
              have HY2 := HY.out hqq
              have HT2 : Hid _ := HT.out hqq
              rw [k2] at CF
              have k3d : decide (0 < j3) = true := by simp [k3]
              clear hQ HS hqq
              gi_wp2_with (first
                | (refine ⟨trivial, ?_⟩; gi_at_call 19; (try rw [hWj]); refine (callsIn_wide.2 CF).mono ?_; rintro e w3 ⟨rfl, hb3⟩; (have hb3' : Below wr.heap.size wr w3 := bel_of HBJ.out.1 hb3 (Nat.le_refl _)); (have hob : w3.heap[wr.heap.size]? = _ := (hb3.block _ (by have := HBJ.out.2.1; omega)).trans HBJ.out.2.2); (have p0 : w3.cell? ⟨wr.heap.size, 0, none⟩ = some (.int .u64 (j0 : Int)) := by simp [World.cell?, hob]); (have p1 : w3.cell? ⟨wr.heap.size, 1, none⟩ = some (.int .u64 (j1 : Int)) := by simp [World.cell?, hob]); (have p2 : w3.cell? ⟨wr.heap.size, 2, none⟩ = some (.string (S j2)) := by simp [World.cell?, hob]); (have p3 : w3.cell? ⟨wr.heap.size, 3, none⟩ = some (.int .i64 j3) := by simp [World.cell?, hob]); (have p4 : w3.cell? ⟨wr.heap.size, 4, none⟩ = some (.string (S j4)) := by simp [World.cell?, hob]); (have p5 : w3.cell? ⟨wr.heap.size, 5, none⟩ = some (.int .i64 j5) := by simp [World.cell?, hob]); (have hY := HY2 w3 (Go.Proofs.YthmfcloecmnfnaaGreat.Sb.of_below hb3')); (have HB3 : Hid (Below wr.heap.size wr w3) := hb3'); clear hob hb3 hb3' HY2 HY; obtain ⟨fn, tmps, assign, body, hyl, hR⟩ := hY.yield; (have HRr : Hid _ := hR); clear hR hY))
              refine (HRr.out _).mono ?_
              rintro e w4 ⟨hkf, hk3, hj⟩
              obtain ⟨bb, hbb, hj2⟩ : ∃ bb, e = .returned (.bool bb) ∧ (bb = true ∧ J W1.heap.size (rdyT j2 l i ++ [(⟨j0, j1, j2, j3, j4, j5⟩, i)]) w4 ∨ bb = false ∧ Jx W1.heap.size (rdyT j2 l i ++ [(⟨j0, j1, j2, j3, j4, j5⟩, i)]) w4) := (hj.elim (fun h => ⟨true, h.1, .inl ⟨rfl, h.2⟩⟩) (fun h => ⟨false, h.1, .inr ⟨rfl, h.2⟩⟩))
              subst hbb
              have HJ : Hid _ := hj2
              have HK : Hid _ := hq.trans ((Kq.of_below HB3.out).trans (hk3.sub (fun k hk => .inl hk)))
              clear hj hj2 hk3 hkf
              rw [HT2.out] at HJ
              cases bb
              · obtain ⟨h, -⟩ | ⟨-, hJx⟩ := HJ.out
                · cases h
                have HX : Hid _ := hJx
                clear hJx HJ
                gi_wp2
                refine bodyPost_ret (results_none rfl _ _ _) rfl ?_
                exact ⟨⟨_, rfl⟩, .inr ⟨_, _, HX.out⟩⟩
              · obtain ⟨-, hJ3⟩ | ⟨h, -⟩ := HJ.out
                rotate_left
                · cases h
                have HX : Hid _ := hJ3
                clear hJ3 HJ
                gi_wp2
                go_roundw
                case rel => exact ⟨i + 1, by simp, by omega, HX.out, HK.out⟩
                case measure => simp [intOf]; omega
            · have hqq : rdyq j2 ⟨j0, j1, j2, j3, j4, j5⟩ = false := by rw [hQ]; simp [k3]
              have HS2 : Hid (∀ W, Below wr.heap.size wr W → J W1.heap.size (rdyT j2 l (i + 1)) W) := fun W hW => HS.out W hW hqq
              have k3d : decide (0 < j3) = false := by simp [k3]
              rw [k2] at CF
              clear hQ HS HY HT hqq
              gi_wp2_with (first
                | (refine ⟨trivial, ?_⟩; gi_at_call 19; (try rw [hWj]); refine (callsIn_wide.2 CF).mono ?_; rintro e w3 ⟨rfl, hb3⟩; (have hb3' : Below wr.heap.size wr w3 := bel_of HBJ.out.1 hb3 (Nat.le_refl _)); (have hob : w3.heap[wr.heap.size]? = _ := (hb3.block _ (by have := HBJ.out.2.1; omega)).trans HBJ.out.2.2); (have p0 : w3.cell? ⟨wr.heap.size, 0, none⟩ = some (.int .u64 (j0 : Int)) := by simp [World.cell?, hob]); (have p1 : w3.cell? ⟨wr.heap.size, 1, none⟩ = some (.int .u64 (j1 : Int)) := by simp [World.cell?, hob]); (have p2 : w3.cell? ⟨wr.heap.size, 2, none⟩ = some (.string (S j2)) := by simp [World.cell?, hob]); (have p3 : w3.cell? ⟨wr.heap.size, 3, none⟩ = some (.int .i64 j3) := by simp [World.cell?, hob]); (have p4 : w3.cell? ⟨wr.heap.size, 4, none⟩ = some (.string (S j4)) := by simp [World.cell?, hob]); (have p5 : w3.cell? ⟨wr.heap.size, 5, none⟩ = some (.int .i64 j5) := by simp [World.cell?, hob]); (have HB3 : Hid (Below wr.heap.size wr w3) := hb3'); clear hob hb3 hb3'))
              refine ⟨(fun _ h => by cases h), ?_⟩
              gi_wp2
              go_roundw
              case rel => exact ⟨i + 1, by simp, by omega, HS2.out _ HB3.out, hq.trans (Kq.of_below HB3.out)⟩
              case measure => simp [intOf]; omega
          · have k2 : j4.isEmpty = false := by simpa using k2
            have hqq : rdyq j2 ⟨j0, j1, j2, j3, j4, j5⟩ = false := by rw [hQ]; simp [k2]
            have HS2 : Hid (∀ W, Below wr.heap.size wr W → J W1.heap.size (rdyT j2 l (i + 1)) W) := fun W hW => HS.out W hW hqq
            rw [k2] at CF
            clear hQ HS HY HT hqq
            gi_wp2_with (first
              | (refine ⟨trivial, ?_⟩; gi_at_call 19; (try rw [hWj]); refine (callsIn_wide.2 CF).mono ?_; rintro e w3 ⟨rfl, hb3⟩; (have hb3' : Below wr.heap.size wr w3 := bel_of HBJ.out.1 hb3 (Nat.le_refl _)); (have HB3 : Hid (Below wr.heap.size wr w3) := hb3'); clear hb3 hb3'))
            refine ⟨(fun _ h => by cases h), ?_⟩
            gi_wp2
            go_roundw
            case rel => exact ⟨i + 1, by simp, by omega, HS2.out _ HB3.out, hq.trans (Kq.of_below HB3.out)⟩
            case measure => simp [intOf]; omega
        · have hqq : rdyq kind ⟨j0, j1, j2, j3, j4, j5⟩ = false := by rw [hQ]; simp [k1]
          have kb : ((S j2).toList == (S kind).toList) = false := by rw [beq_eq_false_iff_ne]; intro e; exact k1 (by simpa [Lib.toList_data, S_data] using e)
          have HS2 : Hid (∀ W, Below wr.heap.size wr W → J W1.heap.size (rdyT kind l (i + 1)) W) := fun W hW => HS.out W hW hqq
          clear hQ HS HY HT hqq
          gi_wp2
          refine ⟨trivial, ?_⟩
          gi_wp2
          refine ⟨(fun _ h => by cases h), ?_⟩
          gi_wp2
          go_roundw
          case rel => exact ⟨i + 1, by simp, by omega, (by (try rw [hWj]); exact HS2.out _ HBJ.out.1), (by (try rw [hWj]); exact hq.trans (Kq.of_below HBJ.out.1))⟩
          case measure => simp [intOf]; omega
      · obtain rfl : i = l.length := by omega
        gi_wp2
        go_end0
        exact ⟨⟨_, rfl⟩, .inl ⟨_, hJ⟩⟩
  · have HC : Hid _ := hC
    clear hC
    unfold Go.Proofs.YthmfcloecmnfnaaGreat.Ent0 at eg
    gi_wp2
    gi_loopw [8] (fun v8 wr => ∃ i : Nat, v8 = .int .i64 (i : Int) ∧ i ≤ l.length ∧ J W1.heap.size (rdyT kind l i) wr ∧ Kq (fun x => X x ∨ x = bj ∨ x = bk) W1 wr) (fun v8 _ => l.length - (intOf v8).toNat)
    case atStart => exact ⟨0, rfl, Nat.zero_le _, hst, Kq.refl _ _⟩
    case round =>
      obtain ⟨i, rfl, hi, hJ, hq⟩ := hrel
      by_cases hlt : i < l.length
      · obtain ⟨g1, hg1⟩ : ∃ g, ja = some ⟨g, 0, none⟩ := HR.out.1 (by omega)
        subst hg1
        have hgx : X g1 := HR.out.2 g1 rfl
        have HM : Hid (∀ (n : Nat) (u : Value), (Jb.c l[i])[n]? = some u → wr.cell? ⟨g1, i * 6 + n, none⟩ = some u) := fun n u hu => kq_cell hq (p := ⟨g1, i * 6 + n, none⟩) (.inl hgx) (row_cell HRow.out (by
          have hn : n < 6 := by have := (List.getElem?_eq_some_iff.1 hu).1; simpa [Jb.c] using this
          rw [fm_get Jb.k _ i n hn, List.getElem?_eq_getElem hlt]; exact hu))
        have mk := (kq_bx hq (.inr (.inr rfl)) HBx.out.2).cell
        have HY : Hid (rdyq kind l[i] = true → ∀ W, Go.Proofs.YthmfcloecmnfnaaGreat.Sb W1.heap.size W1.heap.size wr W → Yd _ #[.int .i64 (i : Int), .agg (Jb.c l[i]).toArray] W _) := fun hqq W hs => HC.out.go W1.heap.size (rdyT kind l i) (l[i], i) wr W hJ hs (rdyT_pre hlt hqq)
        have HS : Hid (∀ W, Below wr.heap.size wr W → rdyq kind l[i] = false → J W1.heap.size (rdyT kind l (i + 1)) W) := fun W hW hqq => by rw [rdyT_no hlt hqq]; exact HC.out.st _ _ _ _ hJ (Go.Proofs.YthmfcloecmnfnaaGreat.Sb.of_below hW)
        have HT : Hid (rdyq kind l[i] = true → rdyT kind l i ++ [(l[i], i)] = rdyT kind l (i + 1)) := fun hqq => (rdyT_yes hlt hqq).symm
        have hki : (i : Int) < (l.length : Int) := by omega
        clear hJ
        generalize l[i] = j at *
        obtain ⟨j0, j1, j2, j3, j4, j5⟩ := j
        simp only [Jb.c] at HM HY
        have m0 := HM.out 0 _ rfl
        have m1 := HM.out 1 _ rfl
        have m2 := HM.out 2 _ rfl
        have m3 := HM.out 3 _ rfl
        have m4 := HM.out 4 _ rfl
        have m5 := HM.out 5 _ rfl
        simp only [Nat.add_zero] at m0
        have hQ : rdyq kind ⟨j0, j1, j2, j3, j4, j5⟩ = (j2 == kind && (j4.isEmpty && decide (0 < j3))) := rfl
        obtain ⟨Wj, hWj⟩ : ∃ Wj, wr.alloc (.cells #[.int .u64 (j0 : Int), .int .u64 (j1 : Int), .string (S j2), .int .i64 j3, .string (S j4), .int .i64 j5] 46) = Wj := ⟨_, rfl⟩
        have hbj : Below wr.heap.size wr Wj := by rw [← hWj]; exact (Below.refl _ wr).alloc (Nat.le_refl _) _
        have hsj : Wj.heap.size = wr.heap.size + 1 := by rw [← hWj]; simp
        have hoj : Wj.heap[wr.heap.size]? = some (.cells #[.int .u64 (j0 : Int), .int .u64 (j1 : Int), .string (S j2), .int .i64 j3, .string (S j4), .int .i64 j5] 46 (0, 0)) := by rw [← hWj]; exact heap_alloc_new wr _
        have n0 : Wj.cell? ⟨wr.heap.size, 0, none⟩ = some (.int .u64 (j0 : Int)) := by simp [World.cell?, hoj]
        have n1 : Wj.cell? ⟨wr.heap.size, 1, none⟩ = some (.int .u64 (j1 : Int)) := by simp [World.cell?, hoj]
        have n2 : Wj.cell? ⟨wr.heap.size, 2, none⟩ = some (.string (S j2)) := by simp [World.cell?, hoj]
        have n3 : Wj.cell? ⟨wr.heap.size, 3, none⟩ = some (.int .i64 j3) := by simp [World.cell?, hoj]
        have n4 : Wj.cell? ⟨wr.heap.size, 4, none⟩ = some (.string (S j4)) := by simp [World.cell?, hoj]
        have n5 : Wj.cell? ⟨wr.heap.size, 5, none⟩ = some (.int .i64 j5) := by simp [World.cell?, hoj]
        have mk2 := (hbj.cell (p := ⟨bk, 0, none⟩) (World.block_lt_of_cell? _ _ mk)).trans mk
        have CF := free_any (w := Wj) ⟨j0, j1, j2, j3, j4, j5⟩
        simp only [Jb.c] at CF
        have HBJ : Hid (Below wr.heap.size wr Wj ∧ Wj.heap.size = wr.heap.size + 1 ∧ Wj.heap[wr.heap.size]? = some (.cells #[.int .u64 (j0 : Int), .int .u64 (j1 : Int), .string (S j2), .int .i64 j3, .string (S j4), .int .i64 j5] 46 (0, 0))) := ⟨hbj, hsj, hoj⟩
        clear hbj hsj hoj HM
        have farm : True := trivial
        by_cases k1 : j2 = kind
        · subst k1
          by_cases k2 : j4.isEmpty = true
          · by_cases k3 : 0 < j3
            · have hqq : rdyq j2 ⟨j0, j1, j2, j3, j4, j5⟩ = true := by rw [hQ]; simp [k2, k3]
              have HY2 := HY.out hqq
              have HT2 : Hid _ := HT.out hqq
              rw [k2] at CF
              have k3d : decide (0 < j3) = true := by simp [k3]
              clear hQ HS hqq
              gi_wp2_with (first
                | (refine ⟨trivial, ?_⟩; gi_at_call 19; (try rw [hWj]); refine (callsIn_wide.2 CF).mono ?_; rintro e w3 ⟨rfl, hb3⟩; (have hb3' : Below wr.heap.size wr w3 := bel_of HBJ.out.1 hb3 (Nat.le_refl _)); (have hob : w3.heap[wr.heap.size]? = _ := (hb3.block _ (by have := HBJ.out.2.1; omega)).trans HBJ.out.2.2); (have p0 : w3.cell? ⟨wr.heap.size, 0, none⟩ = some (.int .u64 (j0 : Int)) := by simp [World.cell?, hob]); (have p1 : w3.cell? ⟨wr.heap.size, 1, none⟩ = some (.int .u64 (j1 : Int)) := by simp [World.cell?, hob]); (have p2 : w3.cell? ⟨wr.heap.size, 2, none⟩ = some (.string (S j2)) := by simp [World.cell?, hob]); (have p3 : w3.cell? ⟨wr.heap.size, 3, none⟩ = some (.int .i64 j3) := by simp [World.cell?, hob]); (have p4 : w3.cell? ⟨wr.heap.size, 4, none⟩ = some (.string (S j4)) := by simp [World.cell?, hob]); (have p5 : w3.cell? ⟨wr.heap.size, 5, none⟩ = some (.int .i64 j5) := by simp [World.cell?, hob]); (have hY := HY2 w3 (Go.Proofs.YthmfcloecmnfnaaGreat.Sb.of_below hb3')); (have HB3 : Hid (Below wr.heap.size wr w3) := hb3'); clear hob hb3 hb3' HY2 HY))
              refine ⟨trivial, ?_⟩
              refine (callsIn_wide.2 hY.func).mono ?_
              rintro e w4 ⟨hkf, hk3, hj⟩
              obtain ⟨bb, hbb, hj2⟩ : ∃ bb, e = .returned (.bool bb) ∧ (bb = true ∧ J W1.heap.size (rdyT j2 l i ++ [(⟨j0, j1, j2, j3, j4, j5⟩, i)]) w4 ∨ bb = false ∧ Jx W1.heap.size (rdyT j2 l i ++ [(⟨j0, j1, j2, j3, j4, j5⟩, i)]) w4) := (hj.elim (fun h => ⟨true, h.1, .inl ⟨rfl, h.2⟩⟩) (fun h => ⟨false, h.1, .inr ⟨rfl, h.2⟩⟩))
              subst hbb
              have HJ : Hid _ := hj2
              have HK : Hid _ := hq.trans ((Kq.of_below HB3.out).trans (hk3.sub (fun k hk => .inl hk)))
              clear hj hj2 hk3 hkf
              rw [HT2.out] at HJ
              cases bb
              · obtain ⟨h, -⟩ | ⟨-, hJx⟩ := HJ.out
                · cases h
                have HX : Hid _ := hJx
                clear hJx HJ
                gi_wp2
                refine bodyPost_ret (results_none rfl _ _ _) rfl ?_
                exact ⟨⟨_, rfl⟩, .inr ⟨_, _, HX.out⟩⟩
              · obtain ⟨-, hJ3⟩ | ⟨h, -⟩ := HJ.out
                rotate_left
                · cases h
                have HX : Hid _ := hJ3
                clear hJ3 HJ
                gi_wp2
                go_roundw
                case rel => exact ⟨i + 1, by simp, by omega, HX.out, HK.out⟩
                case measure => simp [intOf]; omega
            · have hqq : rdyq j2 ⟨j0, j1, j2, j3, j4, j5⟩ = false := by rw [hQ]; simp [k3]
              have HS2 : Hid (∀ W, Below wr.heap.size wr W → J W1.heap.size (rdyT j2 l (i + 1)) W) := fun W hW => HS.out W hW hqq
              have k3d : decide (0 < j3) = false := by simp [k3]
              rw [k2] at CF
              clear hQ HS HY HT hqq
              gi_wp2_with (first
                | (refine ⟨trivial, ?_⟩; gi_at_call 19; (try rw [hWj]); refine (callsIn_wide.2 CF).mono ?_; rintro e w3 ⟨rfl, hb3⟩; (have hb3' : Below wr.heap.size wr w3 := bel_of HBJ.out.1 hb3 (Nat.le_refl _)); (have hob : w3.heap[wr.heap.size]? = _ := (hb3.block _ (by have := HBJ.out.2.1; omega)).trans HBJ.out.2.2); (have p0 : w3.cell? ⟨wr.heap.size, 0, none⟩ = some (.int .u64 (j0 : Int)) := by simp [World.cell?, hob]); (have p1 : w3.cell? ⟨wr.heap.size, 1, none⟩ = some (.int .u64 (j1 : Int)) := by simp [World.cell?, hob]); (have p2 : w3.cell? ⟨wr.heap.size, 2, none⟩ = some (.string (S j2)) := by simp [World.cell?, hob]); (have p3 : w3.cell? ⟨wr.heap.size, 3, none⟩ = some (.int .i64 j3) := by simp [World.cell?, hob]); (have p4 : w3.cell? ⟨wr.heap.size, 4, none⟩ = some (.string (S j4)) := by simp [World.cell?, hob]); (have p5 : w3.cell? ⟨wr.heap.size, 5, none⟩ = some (.int .i64 j5) := by simp [World.cell?, hob]); (have HB3 : Hid (Below wr.heap.size wr w3) := hb3'); clear hob hb3 hb3'))
              refine ⟨(fun _ h => by cases h), ?_⟩
              gi_wp2
              go_roundw
              case rel => exact ⟨i + 1, by simp, by omega, HS2.out _ HB3.out, hq.trans (Kq.of_below HB3.out)⟩
              case measure => simp [intOf]; omega
          · have k2 : j4.isEmpty = false := by simpa using k2
            have hqq : rdyq j2 ⟨j0, j1, j2, j3, j4, j5⟩ = false := by rw [hQ]; simp [k2]
            have HS2 : Hid (∀ W, Below wr.heap.size wr W → J W1.heap.size (rdyT j2 l (i + 1)) W) := fun W hW => HS.out W hW hqq
            rw [k2] at CF
            clear hQ HS HY HT hqq
            gi_wp2_with (first
              | (refine ⟨trivial, ?_⟩; gi_at_call 19; (try rw [hWj]); refine (callsIn_wide.2 CF).mono ?_; rintro e w3 ⟨rfl, hb3⟩; (have hb3' : Below wr.heap.size wr w3 := bel_of HBJ.out.1 hb3 (Nat.le_refl _)); (have HB3 : Hid (Below wr.heap.size wr w3) := hb3'); clear hb3 hb3'))
            refine ⟨(fun _ h => by cases h), ?_⟩
            gi_wp2
            go_roundw
            case rel => exact ⟨i + 1, by simp, by omega, HS2.out _ HB3.out, hq.trans (Kq.of_below HB3.out)⟩
            case measure => simp [intOf]; omega
        · have hqq : rdyq kind ⟨j0, j1, j2, j3, j4, j5⟩ = false := by rw [hQ]; simp [k1]
          have kb : ((S j2).toList == (S kind).toList) = false := by rw [beq_eq_false_iff_ne]; intro e; exact k1 (by simpa [Lib.toList_data, S_data] using e)
          have HS2 : Hid (∀ W, Below wr.heap.size wr W → J W1.heap.size (rdyT kind l (i + 1)) W) := fun W hW => HS.out W hW hqq
          clear hQ HS HY HT hqq
          gi_wp2
          refine ⟨trivial, ?_⟩
          gi_wp2
          refine ⟨(fun _ h => by cases h), ?_⟩
          gi_wp2
          go_roundw
          case rel => exact ⟨i + 1, by simp, by omega, (by (try rw [hWj]); exact HS2.out _ HBJ.out.1), (by (try rw [hWj]); exact hq.trans (Kq.of_below HBJ.out.1))⟩
          case measure => simp [intOf]; omega
      · obtain rfl : i = l.length := by omega
        gi_wp2
        go_end0
        exact ⟨⟨_, rfl⟩, .inl ⟨_, hJ⟩⟩
end Go.Proofs.YthmfcloecmnfnaaGreat.f13

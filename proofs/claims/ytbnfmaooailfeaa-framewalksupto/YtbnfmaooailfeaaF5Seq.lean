/-
  Package frame's ranges: pieces ranges over the frames that begin some bytes.
-/
import Derived.Test.YtbnfmaooailfeaaXSeq
import Derived.Test.YtbnfmaooailfeaaF5Fra
import Derived.Test.YtbnfmaooailfeaaF5Take
import Derived.Stop.RegionWithIn
import Derived.Maps.OwnIn
namespace Go.Proofs.Ytbnfmaooailfeaa
open Go.RowKit Go.Shelf Go.Sort
open Go.Lib hiding intOf

attribute [local go_sem] Oper.semAt_some

/-- a frame, as pieces tells it -/
def encP (x : Fr) : Array Value := #[.agg #[.int .u8 (x.1.toNat : Int), .string (S x.2.1), .int .i64 (x.2.2 : Int)]]
def lenOf : Value → Nat
  | .string s => s.size
  | _ => 0
theorem Kq.cl {X : Nat → Prop} {W W' : World} (h : Kq X W W') {b n : Nat} {K : IntKind} {f : Nat → Nat} (hX : X b) (hc : Cl W b n K f) (hn : 0 < n) : Cl W' b n K f := by
  obtain ⟨o, ho, hcl⟩ := cells_of_cell (hc.cell 0 hn)
  have e := h.2 b o hX ho hcl
  have e' : W'.heap[b]? = W.heap[b]? := e.trans ho.symm
  exact ⟨fun j hj => (World.cell?_of_block (w := W) (a := ⟨b, j, none⟩) e').trans (hc.cell j hj), fun j => (World.frozen?_of_block (w := W) (a := ⟨b, j, none⟩) e').trans (hc.fro j), (Array.getElem?_eq_some_iff.1 e).1⟩
theorem fra_pre {l m : List UInt8} {pre : List Fr} (h : fra l = pre ++ fra m) (h0 : (tak m).2.2.2 = 0) : pre ++ [((tak m).1, (tak m).2.1, (tak m).2.2.1)] <+: fra l ∧ fra l = (pre ++ [((tak m).1, (tak m).2.1, (tak m).2.2.1)]) ++ fra (m.drop (tak m).2.2.1) := by
  rw [fra_step h0] at h
  have e : fra l = (pre ++ [((tak m).1, (tak m).2.1, (tak m).2.2.1)]) ++ fra (m.drop (tak m).2.2.1) := by rw [h]; simp
  exact ⟨⟨_, e.symm⟩, e⟩

set_option maxRecDepth 100000 in
set_option maxHeartbeats 4000000 in
theorem pieces1_runs {W1 : World} {b : Nat} {l : List UInt8} (hb : Bx W1 b (.string (S l)) 9) (hl : l.length ≤ 4611686018427387904) : Runs encP 37 #[.pointer (some ⟨b, 0, none⟩)] (fra l) (fun k => k = b) W1 := by
  intro y J Jx hC
  have HB : Hid (Bx W1 b (.string (S l)) 9) := hb
  have hbl := hb.lt
  refine (callsIn_wide (n := 9)).1 ?_
  refine callsIn_of_wp Try.func37 rfl trivial ?_ rfl
  simp only [Try.ntmps37, List.size_toArray, List.length_cons, List.length_nil, Nat.reduceAdd, Nat.reduceSub, Array.replicate_succ, Array.replicate_zero, List.push_toArray, List.append_toArray, List.nil_append, List.cons_append]
  rcases id hC.yk with ⟨ly, rfl⟩ | ⟨gf, caps, rfl, eg⟩
  · have HC : Hid _ := hC
    clear hC
    gi_wp2_with (first
      | (refine ⟨trivial, ?_⟩; gi_at_call 23; refine (callsIn_wide.2 (sums_any _)).mono ?_; rintro e w2 ⟨rfl, hT2, hB2⟩; have c0 := (HB.out.below hB2 hbl).cell))
    have hst := HC.out.start w2 hB2
    gi_loopw [4] (fun r wr => ∃ (m : List UInt8) (pre : List Fr), r = .string (S m) ∧ fra l = pre ++ fra m ∧ m.length ≤ l.length ∧ J w2.heap.size pre wr ∧ Tab wr W1.heap.size ∧ w2.heap.size ≤ wr.heap.size) (fun r _ => lenOf r)
    case atStart => exact ⟨l, [], rfl, rfl, Nat.le_refl _, hst, hT2, Nat.le_refl _⟩
    case round =>
      obtain ⟨m, pre, rfl, hfr, hml, hJ, hT, hsz⟩ := hrel
      have HF : Hid (fra l = pre ++ fra m) := hfr
      have hk := take_any hT m (by omega)
      by_cases h0 : (tak m).2.2.2 = 0
      · obtain ⟨hpr, hnx⟩ := fra_pre hfr h0
        obtain ⟨h6, hn5, hnl⟩ := tak_ok h0
        have hdl : (m.drop (tak m).2.2.1).length = m.length - (tak m).2.2.1 := List.length_drop
        have hx := S_drop m (tak m).2.2.1
        have hsm := S_size m
        have hY := fun W hs => HC.out.go w2.heap.size pre ((tak m).1, (tak m).2.1, (tak m).2.2.1) wr W hJ hs hpr
        have HN : Hid (fra l = (pre ++ [((tak m).1, (tak m).2.1, (tak m).2.2.1)]) ++ fra (m.drop (tak m).2.2.1)) := hnx
        have HT : Hid (Tab wr W1.heap.size) := hT
        have hbe : (((tak m).2.2.2 : Int) != 0) = false := by rw [h0]; rfl
        unfold encP at hY
        clear hfr hnx hpr hJ HF hT
        generalize hmd : m.drop (tak m).2.2.1 = md at *
        clear hmd
        generalize tak m = r at *
        obtain ⟨c, s, n, er⟩ := r
        unfold pce at hk
        simp only at hk hbe hY hx hnl hn5 hdl h0
        subst h0
        have hni : (n : Int) ≤ (m.length : Int) := by omega
        have hn0 : (0 : Int) ≤ (n : Int) := by omega
        gi_wp2_with (first
          | (refine ⟨trivial, ?_⟩; gi_at_call 24; refine (callsIn_wide.2 hk).mono ?_; rintro e w3 ⟨rfl, hB3⟩; have hy := hY (w3.alloc (.cells #[.int .u8 (c.toNat : Int), .string (S s), .int .i64 (n : Int)] 60)) (Sb.of_below (hB3.alloc hB3.size _)); obtain ⟨fn, tmps, assign, body, hyl, hR⟩ := hy.yield; have HR : Hid _ := hR; clear hR hy))
        refine (HR.out _).mono ?_
        rintro e W3 ⟨hkf, hk3, ⟨rfl, hJ3⟩ | ⟨rfl, hJ3⟩⟩
        · have hT3 : Tab W3 W1.heap.size := hk3.cl (.inr (.inl ⟨Nat.le_refl _, hT2.lt⟩)) (HT.out.below (hB3.alloc hB3.size _) HT.out.lt) (by decide)
          have c3 := kq_cell hk3 (p := ⟨w3.heap.size, 2, none⟩) (v := .int .i64 (n : Int)) (.inr (.inr ⟨hB3.size, by simp⟩)) (by go_simp)
          have HJ3 : Hid _ := hJ3
          have hs3 := hk3.1
          clear hJ3
          gi_wp2
          go_roundw
          case rel => exact ⟨md, _, rfl, HN.out, by omega, HJ3.out, hT3, by have := hB3.size; simp at hs3; omega⟩
          case measure => simp [lenOf, S_size]; omega
        · have HJ3 : Hid _ := hJ3
          clear hJ3
          gi_wp2
          refine bodyPost_ret (results_none rfl _ _ _) rfl ?_
          exact ⟨⟨_, rfl⟩, .inr ⟨_, _, HJ3.out⟩⟩
      · have hnil := fra_end h0
        rw [hnil, List.append_nil] at hfr
        have hbe : (((tak m).2.2.2 : Int) != 0) = true := by rw [bne_iff_ne]; omega
        have HJ : Hid (J w2.heap.size (fra l) wr) := by rw [hfr]; exact hJ
        clear hJ hfr hnil hT HF
        generalize tak m = r at *
        obtain ⟨c, s, n, er⟩ := r
        unfold pce at hk
        simp only at hk hbe
        gi_wp2_with (first
          | (refine ⟨trivial, ?_⟩; gi_at_call 24; refine (callsIn_wide.2 hk).mono ?_; rintro e w3 ⟨rfl, hB3⟩))
        refine ⟨(fun _ h => by cases h), ?_⟩
        gi_wp2
        refine bodyPost_ret (results_none rfl _ _ _) rfl ?_
        exact ⟨⟨_, rfl⟩, .inl ⟨_, HC.out.st _ _ _ _ HJ.out (Sb.of_below (hB3.alloc hB3.size _))⟩⟩
  · have HC : Hid _ := hC
    clear hC
    unfold Ent0 at eg
    gi_wp2_with (first
      | (refine ⟨trivial, ?_⟩; gi_at_call 23; refine (callsIn_wide.2 (sums_any _)).mono ?_; rintro e w2 ⟨rfl, hT2, hB2⟩; have c0 := (HB.out.below hB2 hbl).cell))
    have hst := HC.out.start w2 hB2
    gi_loopw [4] (fun r wr => ∃ (m : List UInt8) (pre : List Fr), r = .string (S m) ∧ fra l = pre ++ fra m ∧ m.length ≤ l.length ∧ J w2.heap.size pre wr ∧ Tab wr W1.heap.size ∧ w2.heap.size ≤ wr.heap.size) (fun r _ => lenOf r)
    case atStart => exact ⟨l, [], rfl, rfl, Nat.le_refl _, hst, hT2, Nat.le_refl _⟩
    case round =>
      obtain ⟨m, pre, rfl, hfr, hml, hJ, hT, hsz⟩ := hrel
      have HF : Hid (fra l = pre ++ fra m) := hfr
      have hk := take_any hT m (by omega)
      by_cases h0 : (tak m).2.2.2 = 0
      · obtain ⟨hpr, hnx⟩ := fra_pre hfr h0
        obtain ⟨h6, hn5, hnl⟩ := tak_ok h0
        have hdl : (m.drop (tak m).2.2.1).length = m.length - (tak m).2.2.1 := List.length_drop
        have hx := S_drop m (tak m).2.2.1
        have hsm := S_size m
        have hY := fun W hs => HC.out.go w2.heap.size pre ((tak m).1, (tak m).2.1, (tak m).2.2.1) wr W hJ hs hpr
        have HN : Hid (fra l = (pre ++ [((tak m).1, (tak m).2.1, (tak m).2.2.1)]) ++ fra (m.drop (tak m).2.2.1)) := hnx
        have HT : Hid (Tab wr W1.heap.size) := hT
        have hbe : (((tak m).2.2.2 : Int) != 0) = false := by rw [h0]; rfl
        unfold encP at hY
        clear hfr hnx hpr hJ HF hT
        generalize hmd : m.drop (tak m).2.2.1 = md at *
        clear hmd
        generalize tak m = r at *
        obtain ⟨c, s, n, er⟩ := r
        unfold pce at hk
        simp only at hk hbe hY hx hnl hn5 hdl h0
        subst h0
        have hni : (n : Int) ≤ (m.length : Int) := by omega
        have hn0 : (0 : Int) ≤ (n : Int) := by omega
        gi_wp2_with (first
          | (refine ⟨trivial, ?_⟩; gi_at_call 24; refine (callsIn_wide.2 hk).mono ?_; rintro e w3 ⟨rfl, hB3⟩; have hy := hY (w3.alloc (.cells #[.int .u8 (c.toNat : Int), .string (S s), .int .i64 (n : Int)] 60)) (Sb.of_below (hB3.alloc hB3.size _)); have hc := hy.func; clear hy))
        refine ⟨trivial, ?_⟩
        refine (callsIn_wide.2 hc).mono ?_
        rintro e W3 ⟨hkf, hk3, ⟨rfl, hJ3⟩ | ⟨rfl, hJ3⟩⟩
        · have hT3 : Tab W3 W1.heap.size := hk3.cl (.inr (.inl ⟨Nat.le_refl _, hT2.lt⟩)) (HT.out.below (hB3.alloc hB3.size _) HT.out.lt) (by decide)
          have c3 := kq_cell hk3 (p := ⟨w3.heap.size, 2, none⟩) (v := .int .i64 (n : Int)) (.inr (.inr ⟨hB3.size, by simp⟩)) (by go_simp)
          have HJ3 : Hid _ := hJ3
          have hs3 := hk3.1
          clear hJ3
          gi_wp2
          go_roundw
          case rel => exact ⟨md, _, rfl, HN.out, by omega, HJ3.out, hT3, by have := hB3.size; simp at hs3; omega⟩
          case measure => simp [lenOf, S_size]; omega
        · have HJ3 : Hid _ := hJ3
          clear hJ3
          gi_wp2
          refine bodyPost_ret (results_none rfl _ _ _) rfl ?_
          exact ⟨⟨_, rfl⟩, .inr ⟨_, _, HJ3.out⟩⟩
      · have hnil := fra_end h0
        rw [hnil, List.append_nil] at hfr
        have hbe : (((tak m).2.2.2 : Int) != 0) = true := by rw [bne_iff_ne]; omega
        have HJ : Hid (J w2.heap.size (fra l) wr) := by rw [hfr]; exact hJ
        clear hJ hfr hnil hT HF
        generalize tak m = r at *
        obtain ⟨c, s, n, er⟩ := r
        unfold pce at hk
        simp only at hk hbe
        gi_wp2_with (first
          | (refine ⟨trivial, ?_⟩; gi_at_call 24; refine (callsIn_wide.2 hk).mono ?_; rintro e w3 ⟨rfl, hB3⟩))
        refine ⟨(fun _ h => by cases h), ?_⟩
        gi_wp2
        refine bodyPost_ret (results_none rfl _ _ _) rfl ?_
        exact ⟨⟨_, rfl⟩, .inl ⟨_, HC.out.st _ _ _ _ HJ.out (Sb.of_below (hB3.alloc hB3.size _))⟩⟩
end Go.Proofs.Ytbnfmaooailfeaa

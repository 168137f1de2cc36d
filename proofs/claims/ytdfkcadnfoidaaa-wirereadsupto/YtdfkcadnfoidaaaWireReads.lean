/-
  Proved: WireReads answers true, and changes nothing that was there before the call, where what it is given holds together at most 1048576 values and letters: whatever bytes there are, and whatever is asked for one behind the other, all is read as the document says, or why not.
-/
import Derived.Test.YtdfkcadnfoidaaaShown
import Derived.Test.YtdfkcadnfoidaaaRefList
import Derived.Test.YtdfkcadnfoidaaaSame
import Derived.Test.YtdfkcadnfoidaaaAsks
import Derived.Test.YtdfkcadnfoidaaaArgs
import Derived.Deep.RegionHeld3
namespace Go.Proofs.Ytdfkcadnfoidaaa.wireReads
open Go.ChangeShapes Go.WideShapes Go.ChangeAt Go.RowKit
open Go.ChangeMaps (open_string shut_string)

/-- each number of the asks is an int -/
def Ints (q : List (Int × Int × Int)) : Prop := ∀ j, j < q.length → (-9223372036854775808 ≤ (q.getD j (0, 0, 0)).2.1 ∧ (q.getD j (0, 0, 0)).2.1 ≤ 9223372036854775807) ∧ (-9223372036854775808 ≤ (q.getD j (0, 0, 0)).2.2 ∧ (q.getD j (0, 0, 0)).2.2 ≤ 9223372036854775807)

theorem rd_drew {b e : Nat} {l : List UInt8} {w : World} (h : Rd w b l e) : Rd w.drew b l e := ⟨h.rest, h.err, h.fr, h.fe, h.lt⟩

set_option maxHeartbeats 4000000 in
set_option maxRecDepth 100000 in
theorem walk (l : List UInt8) (hl : l.length ≤ 1048576) (va : Value) (q : List (Int × Int × Int)) (hql : q.length ≤ 1048576) (hint : Ints q) (w : World) (hs : Asks w va q) :
    Calls Try.prog 4 #[.string (S l), va] w fun r w' => r = .returned (.bool true) ∧ Below w.heap.size w w' := by
  obtain ⟨a, cap, rfl, hs⟩ := hs
  have hsl := S_size l
  go_enter Try.func4, Try.ntmps4
  go_wp2_with fail
  refine (shown_any _).mono ?_
  rintro r w1 ⟨rfl, b1⟩
  go_wp2_with fail
  refine (Read_any l _).mono ?_
  rintro r w2 ⟨rfl, rd2, b2, -⟩
  have hB1 := b1.size
  have B2 := next b1 b2
  clear b1 b2
  have rd3 := rd2.alloc (.cells #[.string (S l), .int .i64 0] 35)
  have hlt12 : w1.heap.size < w2.heap.size := rd2.lt
  have rq3 : Rd (w2.alloc (.cells #[.string (S l), .int .i64 0] 35)) w2.heap.size l 0 := ⟨by go_simp, by go_simp, by go_simp, by go_simp, by simp⟩
  have B3 : Below w.heap.size w (w2.alloc (.cells #[.string (S l), .int .i64 0] 35)) := B2.alloc B2.size _
  have hB2 := B2.size
  clear rd2 B2
  go_wp2_with fail
  go_loopw [8] (fun vi wr => ∃ (k e2 : Nat) (l2 : List UInt8), k ≤ q.length ∧ vi = .int .i64 (k : Int) ∧ l2.length ≤ 1048576 ∧ Rd wr w1.heap.size l2 e2 ∧ Rd wr w2.heap.size l2 e2 ∧ Below w.heap.size w wr)
    (fun vi _ => q.length - (intOf vi).toNat)
  case atStart => exact ⟨0, 0, l, Nat.zero_le _, rfl, hl, rd3, rq3, B3⟩
  case round =>
    obtain ⟨k, e2, l2, hk, rfl, hl2, rd, rq, bel⟩ := hrel
    clear rd3 rq3 B3
    by_cases hkl : k < q.length
    · rcases hs with hs | ⟨b, off, rfl, hlt, hc⟩
      · rw [hs] at hkl; simp at hkl
      obtain ⟨c0, c1, c2⟩ := hc k hkl
      obtain ⟨hi1, hi2⟩ := hint k hkl
      generalize (q.getD k (0, 0, 0)).1 = kind at c0
      generalize (q.getD k (0, 0, 0)).2.1 = many at c1 hi1
      generalize (q.getD k (0, 0, 0)).2.2 = most at c2 hi2
      clear hc hint
      have m0 := (bel.cell (p := ⟨b, off + k * 3, none⟩) hlt).trans c0
      have m1 := (bel.cell (p := ⟨b, off + k * 3 + 1, none⟩) hlt).trans c1
      have m2 := (bel.cell (p := ⟨b, off + k * 3 + 2, none⟩) hlt).trans c2
      clear c0 c1 c2
      by_cases h1 : kind = 1
      · have hkind := h1
        clear h1
        subst hkind
        obtain ⟨v, l3, e3, hU⟩ : ∃ v l3 e3, rdU l2 e2 = (v, l3, e3) := ⟨_, _, _, rfl⟩
        have HU : Hid (rdU l2 e2 = (v, l3, e3)) := hU
        have hle := rdU_le HU
        clear hU
        have hrlt := rd.lt
        have hqlt := rq.lt
        have rda := rd.alloc (.cells #[.int .i64 1, .int .i64 many, .int .i64 most] 37)
        have rqa := rq.alloc (.cells #[.int .i64 1, .int .i64 many, .int .i64 most] 37)
        have bela := bel.alloc bel.size (.cells #[.int .i64 1, .int .i64 many, .int .i64 most] 37)
        clear rd rq bel
        go_wp2_with fail
        refine (Uint_all rda HU).mono ?_
        rintro r w4 ⟨rfl, rd4, b4⟩
        have rq4 := rqa.but b4 (Nat.ne_of_gt hlt12)
        have bel4 := bela.trans (b4.below hB1 bela.size)
        clear rda rqa b4 bela
        go_wp2_with fail
        refine (rUint_all rq4 (by omega) HU).mono ?_
        rintro r w5 ⟨rfl, rq5, b5⟩
        have rd5 := rd4.but b5 (Nat.ne_of_lt hlt12)
        have bel5 := bel4.trans (b5.below hB2 bel4.size)
        have r0 := rq5.rest
        have r1 := rq5.err
        have hz3 := S_size l3
        clear rq4 rd4 b5 bel4 m0 m1 m2 HU
        go_wp2_with fail
        go_region_held3 (fun w' => w'.cell? ⟨w2.heap.size, 0, none⟩ = some (.string (S l3)) ∧ w'.cell? ⟨w2.heap.size, 1, none⟩ = some (.int .i64 (e3 : Int))) (go_keep) (first
          | (go_at_call 30; refine (Left_any (b := w1.heap.size) (l := l3) (e := e3) ?_).mono ?_; exact rd_drew rd5; rintro r w9 ⟨rfl, rfl⟩)
          | (go_at_call 31; refine (Err_any (b := w1.heap.size) (l := l3) (e := e3) ?_).mono ?_; exact rd_drew rd5; rintro r w9 ⟨rfl, rfl⟩)
          | (go_at_call 32; refine (End_any (b := w1.heap.size) (l := l3) (e := e3) ?_).mono ?_; exact rd_drew rd5; rintro r w9 ⟨rfl, rfl⟩)
          | (go_at_call 33; refine (rEnd_any (b := w2.heap.size) (l := l3) (e := e3) ?_).mono ?_; exact rd_drew rq5; rintro r w9 ⟨rfl, rfl⟩))
        all_goals
          go_wp2
          exact ⟨⟨k + 1, e3, l3, by omega, by go_num, by omega, rd_drew rd5, rd_drew rq5, bel5.drew⟩, by simp [intOf]; omega⟩
      by_cases h2 : kind = 2
      · have hkind := h2
        clear h2
        subst hkind
        obtain ⟨v, l3, e3, hU⟩ : ∃ v l3 e3, rdU l2 e2 = (v, l3, e3) := ⟨_, _, _, rfl⟩
        have HU : Hid (rdU l2 e2 = (v, l3, e3)) := hU
        have hle := rdU_le HU
        clear hU
        have hrlt := rd.lt
        have hqlt := rq.lt
        have rda := rd.alloc (.cells #[.int .i64 2, .int .i64 many, .int .i64 most] 37)
        have rqa := rq.alloc (.cells #[.int .i64 2, .int .i64 many, .int .i64 most] 37)
        have bela := bel.alloc bel.size (.cells #[.int .i64 2, .int .i64 many, .int .i64 most] 37)
        clear rd rq bel
        go_wp2_with fail
        refine (Int_all rda HU).mono ?_
        rintro r w4 ⟨rfl, rd4, b4⟩
        have rq4 := rqa.but b4 (Nat.ne_of_gt hlt12)
        have bel4 := bela.trans (b4.below hB1 bela.size)
        clear rda rqa b4 bela
        go_wp2_with fail
        refine (rInt_all rq4 (by omega) HU).mono ?_
        rintro r w5 ⟨rfl, rq5, b5⟩
        have rd5 := rd4.but b5 (Nat.ne_of_lt hlt12)
        have bel5 := bel4.trans (b5.below hB2 bel4.size)
        have r0 := rq5.rest
        have r1 := rq5.err
        have hz3 := S_size l3
        clear rq4 rd4 b5 bel4 m0 m1 m2 HU
        go_wp2_with fail
        go_region_held3 (fun w' => w'.cell? ⟨w2.heap.size, 0, none⟩ = some (.string (S l3)) ∧ w'.cell? ⟨w2.heap.size, 1, none⟩ = some (.int .i64 (e3 : Int))) (go_keep) (first
          | (go_at_call 30; refine (Left_any (b := w1.heap.size) (l := l3) (e := e3) ?_).mono ?_; exact rd_drew rd5; rintro r w9 ⟨rfl, rfl⟩)
          | (go_at_call 31; refine (Err_any (b := w1.heap.size) (l := l3) (e := e3) ?_).mono ?_; exact rd_drew rd5; rintro r w9 ⟨rfl, rfl⟩)
          | (go_at_call 32; refine (End_any (b := w1.heap.size) (l := l3) (e := e3) ?_).mono ?_; exact rd_drew rd5; rintro r w9 ⟨rfl, rfl⟩)
          | (go_at_call 33; refine (rEnd_any (b := w2.heap.size) (l := l3) (e := e3) ?_).mono ?_; exact rd_drew rq5; rintro r w9 ⟨rfl, rfl⟩))
        all_goals
          go_wp2
          exact ⟨⟨k + 1, e3, l3, by omega, by go_num, by omega, rd_drew rd5, rd_drew rq5, bel5.drew⟩, by simp [intOf]; omega⟩
      by_cases h3 : kind = 3
      · have hkind := h3
        clear h3
        subst hkind
        obtain ⟨v, l3, e3, hU⟩ : ∃ v l3 e3, rdB l2 e2 = (v, l3, e3) := ⟨_, _, _, rfl⟩
        have HU : Hid (rdB l2 e2 = (v, l3, e3)) := hU
        have hle := rdB_le HU
        clear hU
        have hrlt := rd.lt
        have hqlt := rq.lt
        have rda := rd.alloc (.cells #[.int .i64 3, .int .i64 many, .int .i64 most] 37)
        have rqa := rq.alloc (.cells #[.int .i64 3, .int .i64 many, .int .i64 most] 37)
        have bela := bel.alloc bel.size (.cells #[.int .i64 3, .int .i64 many, .int .i64 most] 37)
        clear rd rq bel
        go_wp2_with fail
        refine (Byte_all rda HU).mono ?_
        rintro r w4 ⟨rfl, rd4, b4⟩
        have rq4 := rqa.but b4 (Nat.ne_of_gt hlt12)
        have bel4 := bela.trans (b4.below hB1 bela.size)
        clear rda rqa b4 bela
        go_wp2_with fail
        refine (rByte_all rq4 HU).mono ?_
        rintro r w5 ⟨rfl, rq5, b5⟩
        have rd5 := rd4.but b5 (Nat.ne_of_lt hlt12)
        have bel5 := bel4.trans (b5.below hB2 bel4.size)
        have r0 := rq5.rest
        have r1 := rq5.err
        have hz3 := S_size l3
        clear rq4 rd4 b5 bel4 m0 m1 m2 HU
        go_wp2_with fail
        go_region_held3 (fun w' => w'.cell? ⟨w2.heap.size, 0, none⟩ = some (.string (S l3)) ∧ w'.cell? ⟨w2.heap.size, 1, none⟩ = some (.int .i64 (e3 : Int))) (go_keep) (first
          | (go_at_call 30; refine (Left_any (b := w1.heap.size) (l := l3) (e := e3) ?_).mono ?_; exact rd_drew rd5; rintro r w9 ⟨rfl, rfl⟩)
          | (go_at_call 31; refine (Err_any (b := w1.heap.size) (l := l3) (e := e3) ?_).mono ?_; exact rd_drew rd5; rintro r w9 ⟨rfl, rfl⟩)
          | (go_at_call 32; refine (End_any (b := w1.heap.size) (l := l3) (e := e3) ?_).mono ?_; exact rd_drew rd5; rintro r w9 ⟨rfl, rfl⟩)
          | (go_at_call 33; refine (rEnd_any (b := w2.heap.size) (l := l3) (e := e3) ?_).mono ?_; exact rd_drew rq5; rintro r w9 ⟨rfl, rfl⟩))
        all_goals
          go_wp2
          exact ⟨⟨k + 1, e3, l3, by omega, by go_num, by omega, rd_drew rd5, rd_drew rq5, bel5.drew⟩, by simp [intOf]; omega⟩
      by_cases h4 : kind = 4
      · have hkind := h4
        clear h4
        subst hkind
        obtain ⟨v, l3, e3, hU⟩ : ∃ v l3 e3, rdT most l2 e2 = (v, l3, e3) := ⟨_, _, _, rfl⟩
        have HU : Hid (rdT most l2 e2 = (v, l3, e3)) := hU
        have hle := rdT_le HU
        clear hU
        have hrlt := rd.lt
        have hqlt := rq.lt
        have rda := rd.alloc (.cells #[.int .i64 4, .int .i64 many, .int .i64 most] 37)
        have rqa := rq.alloc (.cells #[.int .i64 4, .int .i64 many, .int .i64 most] 37)
        have bela := bel.alloc bel.size (.cells #[.int .i64 4, .int .i64 many, .int .i64 most] 37)
        clear rd rq bel
        have y2 : (wr.alloc (.cells #[.int .i64 4, .int .i64 many, .int .i64 most] 37)).drew.cell? ⟨wr.heap.size, 2, none⟩ = some (.int .i64 most) := by go_simp
        have ylt : wr.heap.size < (wr.alloc (.cells #[.int .i64 4, .int .i64 many, .int .i64 most] 37)).drew.heap.size := by simp
        have bea := bela.drew
        clear bela
        go_wp2_with fail
        clear m0 m1 m2
        go_region_held3 (fun w' => w'.cell? ⟨wr.heap.size, 2, none⟩ = some (.int .i64 most)) (go_keep) (first
          | (go_at_call 25; refine (Text_all (b := w1.heap.size) (e := e2) (l := l2) ?_ (by omega) hi2.2 HU).mono ?_; exact rd_drew rda; rintro r w4 ⟨rfl, rd4, b4⟩; have z2 := (b4.cell (p := ⟨wr.heap.size, 2, none⟩) ylt (Nat.ne_of_gt hrlt)).trans y2)
          | (go_at_call 26; refine (rText_all (b := w2.heap.size) (e := e2) (l := l2) ?_ (by omega) hi2.2 hi2.1 HU).mono ?_; exact (rd_drew rqa).but b4 (Nat.ne_of_gt hlt12); rintro r w5 ⟨rfl, rq5, b5⟩; have z3 := (b5.cell (p := ⟨wr.heap.size, 2, none⟩) (Nat.lt_of_lt_of_le ylt b4.size) (Nat.ne_of_gt hqlt)).trans z2))
        have bel4 := bea.trans (b4.below hB1 bea.size)
        have rd5 := rd4.but b5 (Nat.ne_of_lt hlt12)
        have bel5 := bel4.trans (b5.below hB2 bel4.size)
        have r0 := rq5.rest
        have r1 := rq5.err
        have hz3 := S_size l3
        clear rda rqa rd4 b4 b5 bel4 bea HU y2 ylt z2 z3
        go_wp2_with fail
        go_region_held3 (fun w' => w'.cell? ⟨w2.heap.size, 0, none⟩ = some (.string (S l3)) ∧ w'.cell? ⟨w2.heap.size, 1, none⟩ = some (.int .i64 (e3 : Int))) (go_keep) (first
          | (go_at_call 30; refine (Left_any (b := w1.heap.size) (l := l3) (e := e3) ?_).mono ?_; exact rd_drew rd5; rintro r w9 ⟨rfl, rfl⟩)
          | (go_at_call 31; refine (Err_any (b := w1.heap.size) (l := l3) (e := e3) ?_).mono ?_; exact rd_drew rd5; rintro r w9 ⟨rfl, rfl⟩)
          | (go_at_call 32; refine (End_any (b := w1.heap.size) (l := l3) (e := e3) ?_).mono ?_; exact rd_drew rd5; rintro r w9 ⟨rfl, rfl⟩)
          | (go_at_call 33; refine (rEnd_any (b := w2.heap.size) (l := l3) (e := e3) ?_).mono ?_; exact rd_drew rq5; rintro r w9 ⟨rfl, rfl⟩))
        all_goals
          go_wp2
          exact ⟨⟨k + 1, e3, l3, by omega, by go_num, by omega, rd_drew rd5, rd_drew rq5, bel5.drew⟩, by simp [intOf]; omega⟩
      by_cases h5 : kind = 5
      · have hkind := h5
        clear h5
        subst hkind
        obtain ⟨v, l3, e3, hU⟩ : ∃ v l3 e3, rdL many most l2 e2 = (v, l3, e3) := ⟨_, _, _, rfl⟩
        have HU : Hid (rdL many most l2 e2 = (v, l3, e3)) := hU
        have hle := rdL_le HU
        have hcn := rdL_cnt HU
        clear hU
        have hrlt := rd.lt
        have hqlt := rq.lt
        have rda := rd.alloc (.cells #[.int .i64 5, .int .i64 many, .int .i64 most] 37)
        have rqa := rq.alloc (.cells #[.int .i64 5, .int .i64 many, .int .i64 most] 37)
        have bela := bel.alloc bel.size (.cells #[.int .i64 5, .int .i64 many, .int .i64 most] 37)
        clear rd rq bel
        have y1 : (wr.alloc (.cells #[.int .i64 5, .int .i64 many, .int .i64 most] 37)).drew.cell? ⟨wr.heap.size, 1, none⟩ = some (.int .i64 many) := by go_simp
        have y2 : (wr.alloc (.cells #[.int .i64 5, .int .i64 many, .int .i64 most] 37)).drew.cell? ⟨wr.heap.size, 2, none⟩ = some (.int .i64 most) := by go_simp
        have ylt : wr.heap.size < (wr.alloc (.cells #[.int .i64 5, .int .i64 many, .int .i64 most] 37)).drew.heap.size := by simp
        have bea := bela.drew
        clear bela
        go_wp2_with fail
        clear m0 m1 m2
        go_region_held3 (fun w' => w'.cell? ⟨wr.heap.size, 1, none⟩ = some (.int .i64 many) ∧ w'.cell? ⟨wr.heap.size, 2, none⟩ = some (.int .i64 most)) (go_keep) (first
          | (go_at_call 28; refine (List_all (b := w1.heap.size) (e := e2) (l := l2) ?_ (by omega) hi1.2 hi2.2 HU).mono ?_; exact rd_drew rda; rintro r w4 ⟨v4, rfl, st4, rd4, b4⟩; have x1 := (b4.cell (p := ⟨wr.heap.size, 1, none⟩) ylt (Nat.ne_of_gt hrlt)).trans y1; have x2 := (b4.cell (p := ⟨wr.heap.size, 2, none⟩) ylt (Nat.ne_of_gt hrlt)).trans y2)
          | (go_at_call 29; refine (rList_all (b := w2.heap.size) (e := e2) (l := l2) ?_ (by omega) hi1.2 hi1.1 hi2.2 hi2.1 HU).mono ?_; exact (rd_drew rqa).but b4 (Nat.ne_of_gt hlt12); rintro r w5 ⟨v5, rfl, st5, rq5, b5⟩; have u1 := (b5.cell (p := ⟨wr.heap.size, 1, none⟩) (Nat.lt_of_lt_of_le ylt b4.size) (Nat.ne_of_gt hqlt)).trans x1; have u2 := (b5.cell (p := ⟨wr.heap.size, 2, none⟩) (Nat.lt_of_lt_of_le ylt b4.size) (Nat.ne_of_gt hqlt)).trans x2)
          | (go_at_call 27; refine (Same_true (ls := v) (Strs.of_own (ownsRow_but st4 b5 (Nat.lt_trans hqlt ylt))) (Strs.of_own st5) (by omega)).mono ?_; rintro r w6 ⟨rfl, b6⟩; have t1 := (b6.cell (p := ⟨wr.heap.size, 1, none⟩) (Nat.lt_of_lt_of_le ylt (Nat.le_trans b4.size b5.size))).trans u1; have t2 := (b6.cell (p := ⟨wr.heap.size, 2, none⟩) (Nat.lt_of_lt_of_le ylt (Nat.le_trans b4.size b5.size))).trans u2))
        have bel4 := bea.trans (b4.below hB1 bea.size)
        have rd5a := rd4.but b5 (Nat.ne_of_lt hlt12)
        have bel5a := bel4.trans (b5.below hB2 bel4.size)
        have rd5 := rd5a.below b6 rd5a.lt
        have rq5b := rq5.below b6 rq5.lt
        have bel5 := next bel5a b6
        clear rda rqa rd4 b4 b5 b6 bel4 bel5a bea rd5a rq5 HU y1 y2 x1 x2 u1 u2 t1 t2 ylt st4 st5 hcn
        have rq5 := rq5b
        clear rq5b
        have r0 := rq5.rest
        have r1 := rq5.err
        have hz3 := S_size l3
        go_wp2_with fail
        go_region_held3 (fun w' => w'.cell? ⟨w2.heap.size, 0, none⟩ = some (.string (S l3)) ∧ w'.cell? ⟨w2.heap.size, 1, none⟩ = some (.int .i64 (e3 : Int))) (go_keep) (first
          | (go_at_call 30; refine (Left_any (b := w1.heap.size) (l := l3) (e := e3) ?_).mono ?_; exact rd_drew rd5; rintro r w9 ⟨rfl, rfl⟩)
          | (go_at_call 31; refine (Err_any (b := w1.heap.size) (l := l3) (e := e3) ?_).mono ?_; exact rd_drew rd5; rintro r w9 ⟨rfl, rfl⟩)
          | (go_at_call 32; refine (End_any (b := w1.heap.size) (l := l3) (e := e3) ?_).mono ?_; exact rd_drew rd5; rintro r w9 ⟨rfl, rfl⟩)
          | (go_at_call 33; refine (rEnd_any (b := w2.heap.size) (l := l3) (e := e3) ?_).mono ?_; exact rd_drew rq5; rintro r w9 ⟨rfl, rfl⟩))
        all_goals
          go_wp2
          exact ⟨⟨k + 1, e3, l3, by omega, by go_num, by omega, rd_drew rd5, rd_drew rq5, bel5.drew⟩, by simp [intOf]; omega⟩
      have g1 : (kind == 1) = false := beq_eq_false_iff_ne.2 h1
      have g2 : (kind == 2) = false := beq_eq_false_iff_ne.2 h2
      have g3 : (kind == 3) = false := beq_eq_false_iff_ne.2 h3
      have g4 : (kind == 4) = false := beq_eq_false_iff_ne.2 h4
      have g5 : (kind == 5) = false := beq_eq_false_iff_ne.2 h5
      clear h1 h2 h3 h4 h5
      have rd5 := rd.alloc (.cells #[.int .i64 kind, .int .i64 many, .int .i64 most] 37)
      have rq5 := rq.alloc (.cells #[.int .i64 kind, .int .i64 many, .int .i64 most] 37)
      have bel5 := bel.alloc bel.size (.cells #[.int .i64 kind, .int .i64 many, .int .i64 most] 37)
      have hql2 := rq.lt
      clear rd rq bel
      have r0 := rq5.rest
      have r1 := rq5.err
      have hz3 := S_size l2
      go_wp2_with fail
      go_region_held3 (fun w' => w'.cell? ⟨w2.heap.size, 0, none⟩ = some (.string (S l2)) ∧ w'.cell? ⟨w2.heap.size, 1, none⟩ = some (.int .i64 (e2 : Int))) (go_keep) (first
        | (go_at_call 30; refine (Left_any (b := w1.heap.size) (l := l2) (e := e2) ?_).mono ?_; exact rd_drew rd5; rintro r w9 ⟨rfl, rfl⟩)
        | (go_at_call 31; refine (Err_any (b := w1.heap.size) (l := l2) (e := e2) ?_).mono ?_; exact rd_drew rd5; rintro r w9 ⟨rfl, rfl⟩)
        | (go_at_call 32; refine (End_any (b := w1.heap.size) (l := l2) (e := e2) ?_).mono ?_; exact rd_drew rd5; rintro r w9 ⟨rfl, rfl⟩)
        | (go_at_call 33; refine (rEnd_any (b := w2.heap.size) (l := l2) (e := e2) ?_).mono ?_; exact rd_drew rq5; rintro r w9 ⟨rfl, rfl⟩))
      all_goals
        go_wp2
        exact ⟨⟨k + 1, e2, l2, by omega, by go_num, by omega, rd_drew rd5, rd_drew rq5, bel5.drew⟩, by simp [intOf]; omega⟩
    · go_wp2
      go_ret
      exact ⟨rfl, bel⟩

theorem count_le {H : Type} (l : List (DataW H)) : l.length ≤ Rows.uptoBulkAll l := by
  induction l with
  | nil => simp
  | cons x r ih =>
    have h1 : 1 ≤ Rows.uptoBulk x := by
      cases x with
      | lit y => cases y <;> simp [Rows.uptoBulk]
      | nil => simp [Rows.uptoBulk]
      | ptr d => simp [Rows.uptoBulk]
      | slice elems spare => simp [Rows.uptoBulk]
      | agg parts => simp [Rows.uptoBulk]
      | iface t d => simp [Rows.uptoBulk]
      | map entries => simp [Rows.uptoBulk]
      | held h => simp [Rows.uptoBulk]
    simp only [Rows.uptoBulkAll, List.length_cons]
    omega

set_option maxRecDepth 100000 in
theorem lifted (os : Os) (started : os.Started) (H : Type) (enc : TypeId × Value → H) (F : Stop.Interp) :
    ReturnsInHanded {} Try.checked os 4 .any ((Rows.OpenSpec.upto Rows.wireReadsSpec).pre6 enc Try.prog Try.f4 Rows.wireReadsUptoRow.domain false) (((Rows.OpenSpec.upto Rows.wireReadsSpec).at F).post enc Try.prog Try.f4 false true false false) := by
  refine returnsInHanded_of_cond (C := Try.checked) (s := Rows.OpenSpec.upto Rows.wireReadsSpec) (k := Rows.uptoSmall) rfl own started (by kernel_rfl) Try.func4
    (OpenSpec.witness (enc := enc) (C := Try.checked) (s := Rows.OpenSpec.upto Rows.wireReadsSpec) (k := Rows.uptoSmall) rfl false ⟨#[], #[.string .empty, .slice none 0 0], []⟩ 8 (by kernel_rfl) (by kernel_rfl) (by kernel_rfl)
      (x := ([.lit (.string []), .nil], [], [])) (by kernel_rfl) rfl (by kernel_rfl)) ?_
  intro W base args ds gs before hval0 hW _ hk _
  have hval : ∀ (j : Nat) t v, Try.f4.params[j]? = some t → args[j]? = some v → Value.okWide Try.prog W .any base t v := hval0
  have hW' := hW
  obtain ⟨p, q, hA0, hV, rfl, hfz, hnd⟩ := hW
  have hA : DataW.TrodAll enc Try.prog W 0 (fun _ => true) true Try.f4.params.toList args.toList ds p := hA0
  rw [Try.params4] at hA hval
  obtain ⟨v0, vs0, d0, ds0, p0, q0, hargs, rfl, rfl, h0, r0⟩ := trodAll_cons hA
  obtain ⟨v1, vs1, d1, ds1, p1, q1, rfl, rfl, rfl, h1, r1⟩ := trodAll_cons r0
  obtain ⟨rfl, rfl, rfl⟩ := trodAll_nil r1
  obtain rfl : args = #[v0, v1] := by cases args; simp_all
  obtain ⟨rfl, rfl⟩ := trodVars_none hV
  obtain ⟨a0, rfl, rfl, rfl, w0⟩ := open_string Try.underlying9 (hval 0 9 v0 rfl rfl) h0
  have k1 := h1
  have lt1 : ∀ x ∈ p1, x.block < W.heap.size := by obtain ⟨m, hm⟩ := k1; exact DataW.trod_lt m _ _ _ hm
  obtain ⟨qs, hqs, hfits, _, hqd⟩ := openAsks (hval 1 30 v1 rfl rfl) h1
  have hsmall : Rows.uptoBulkAll ([DataW.lit (.string a0.data.toList), d1] ++ []) ≤ 1048576 := of_decide_eq_true hk
  simp only [List.append_nil, Rows.uptoBulkAll, Rows.uptoBulk] at hsmall
  have hql : qs.length ≤ 1048576 := by
    rcases hqd with rfl | ⟨elems, spare, rfl, he⟩
    · simp
    · have h1 := count_le elems
      simp only [Rows.uptoBulk] at hsmall
      omega
  clear hA0 hval0
  have hwk := walk a0.data.toList (by omega) v1 qs hql hfits W hqs
  rw [S_of] at hwk
  refine hwk.mono fun e W' ⟨he, bel⟩ => ?_
  subst he
  exact ⟨_, rfl, _, _, _, [], _, [], hW', trodAll_mk1 (shut_bool Try.underlying4 _), (trodAll_cons_mk (shut_string Try.underlying9 w0) (trodAll_cons_mk (Below.trod laidOut (by kernel_rfl) (of_decide_eq_true (by kernel_rfl)) k1 bel lt1) trodAll_mk0)), rfl, bel.frame _, fun h => by cases h⟩

theorem proved : Rows.WireReadsUptoSaid :=
  OpenClaim.holds_of_cond 4 Try.f4 rfl rfl rfl rfl rfl rfl rfl ⟨rfl, rfl, rfl, rfl, rfl⟩ rfl rfl rfl rfl rfl (by kernel_rfl) Try.func4 (by kernel_rfl)
    (of_decide_eq_true (by kernel_rfl)) (by unfold Func.isWrapper; first | (rw [if_pos (by decide +kernel)]; kernel_rfl) | (rw [if_neg (by decide +kernel)]; exact ⟨rfl, rfl⟩))
    (fun os started H enc _ F => lifted os started H enc F)
end Go.Proofs.Ytdfkcadnfoidaaa.wireReads

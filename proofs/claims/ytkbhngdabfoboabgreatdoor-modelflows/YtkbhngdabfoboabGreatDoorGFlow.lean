/-
  Package model: Outs, Ins, where what they tell lies; flows counted.
-/
import Derived.Test.YtkbhngdabfoboabGreatDoorM11Way
import Derived.Test.YtkbhngdabfoboabGreatDoorM11Fct
import Derived.Test.YtkbhngdabfoboabGreatDoorGTake
namespace Go.Proofs.YtkbhngdabfoboabGreatDoor.m11
open Go.Proofs.YtkbhngdabfoboabGreatDoor.x10 hiding bel_of
open Go.RowKit Go.Shelf Go.Sort
open Go.Lib hiding intOf

/-- v is a slice of the numbers l, from block B on -/
def Ir (B : Nat) (w : World) (a : Option Addr) (l : List Int) : Prop := l = [] ∨ ∃ b, a = some ⟨b, 0, none⟩ ∧ B ≤ b ∧ b < w.heap.size ∧ ∀ (j : Nat) (h : j < l.length), w.cell? ⟨b, j, none⟩ = some (.int .i64 l[j])
theorem Ir.low {B C : Nat} {w : World} {a : Option Addr} {l : List Int} (h : Ir B w a l) (hB : C ≤ B) : Ir C w a l := h.imp id fun ⟨b, h1, h2, h3, h4⟩ => ⟨b, h1, Nat.le_trans hB h2, h3, h4⟩
theorem Ir.up {B : Nat} {w w' : World} {a : Option Addr} {l : List Int} (h : Ir B w a l) (hb : Below w.heap.size w w') : Ir B w' a l := h.imp id fun ⟨b, h1, h2, h3, h4⟩ => ⟨b, h1, h2, Nat.lt_of_lt_of_le h3 hb.size, fun j hj => (hb.cell (p := ⟨b, j, none⟩) h3).trans (h4 j hj)⟩
theorem row_ir {w : World} {B : Nat} {fa : Option Addr} {fc : Nat} {f : List Int} (h : w.ownsRow B 3 1 (.slice fa f.length fc) f.length (iv f)) : Ir B w fa f := by
  have hl := h.lt
  obtain ⟨h1, h2⟩ := h
  rcases h2 with ⟨-, h3⟩ | ⟨g, cap, cur, h3, h4, h5, h6, h7, h8, h9⟩
  · exact .inl (List.eq_nil_of_length_eq_zero h3)
  · cases h3
    refine .inr ⟨g, rfl, (hl g rfl).1, (Array.getElem?_eq_some_iff.1 h5).1, fun j hj => ?_⟩
    have h10 : (iv f)[j]? = some (.int .i64 f[j]) := by simp [iv, hj]
    rw [← h9, List.getElem?_take] at h10
    split at h10
    · rw [Array.getElem?_toList] at h10
      simpa [World.cell?, h5] using h10
    · cases h10

set_option maxHeartbeats 400000 in
theorem Outs_row {w : World} {nv fv : Value} {P : Pc} (hp : Po w nv fv P) (hz : Pz P) (i : Int) : Calls Tryz.prog 7 #[.agg #[.string (S P.id), nv, fv], .int .i64 i] w fun e w' => ∃ a c, e = .returned (.slice a (ous P i).length c) ∧ Ir w.heap.size w' a (ous P i) ∧ Below w.heap.size w w' := by
  have hmf : ∀ (fn : Fn) (first cap : Array Value) (w : World), (Instr.makeFunc fn first cap).run Tryz.prog w = .ok (.func fn first cap) w := fun _ _ _ _ => rfl
  obtain ⟨W1, hW1⟩ : ∃ W1, (w.alloc (.cells #[.string (S P.id), nv, fv] 25)).alloc (.cells #[.int .i64 i] 3) = W1 := ⟨_, rfl⟩
  have hB1 : Below w.heap.size w W1 := by rw [← hW1]; exact ((Below.refl _ w).alloc (Nat.le_refl _) _).alloc (by simp) _
  have hc : W1.cell? ⟨w.heap.size + 1, 0, none⟩ = some (.int .i64 i) := by
    rw [← hW1]
    have := World.cell?_alloc_new (w.alloc (.cells #[.string (S P.id), nv, fv] 25)) #[.int .i64 i] 3 0
    rw [World.size_alloc] at this
    exact this
  have hlt : w.heap.size + 1 < W1.heap.size := by rw [← hW1]; simp
  have CC := placesRowFlow (kf := 21) (caps := #[.pointer (some ⟨w.heap.size + 1, 0, none⟩)]) (fun f => f.src == i) (hp.fs.up hB1) hz.fl (enters_of Tryz.func21 (by kernel_rfl) rfl) (fun x _ W hW => outs1_any x W ((hW.cell (p := ⟨w.heap.size + 1, 0, none⟩) hlt).trans hc) (Nat.lt_of_lt_of_le hlt hW.size))
  have HW : Hid (_ = W1) := hW1
  have HB : Hid (Below w.heap.size w W1) := hB1
  obtain ⟨na, nc, rfl, -⟩ := hp.ns
  obtain ⟨fa, fc, rfl, -⟩ := hp.fs
  have HR : Hid (plc (fun f => f.src == i) P.flows = ous P i) := by show _ = _; rfl
  rw [HR.out] at CC
  clear hW1 hB1 hc hp hz hlt HR
  generalize ous P i = r at *
  go_enter Tryz.func7, Tryz.ntmps7
  go_wp2_with (go_at_call 20; rw [HW.out]; refine CC.mono ?_; rintro e w1 ⟨ra, rc, rfl, hr, hb1⟩; (have B2 : Hid (Ir w.heap.size w1 ra r ∧ Below w.heap.size w w1) := ⟨(row_ir hr).low HB.out.size, bel_of HB.out hb1 (Nat.le_refl _)⟩); clear hb1 hr CC)
  go_ret
  exact ⟨_, _, rfl, B2.out⟩

set_option maxHeartbeats 400000 in
theorem Ins_row {w : World} {nv fv : Value} {P : Pc} (hp : Po w nv fv P) (hz : Pz P) (i : Int) : Calls Tryz.prog 8 #[.agg #[.string (S P.id), nv, fv], .int .i64 i] w fun e w' => ∃ a c, e = .returned (.slice a (ins P i).length c) ∧ Ir w.heap.size w' a (ins P i) ∧ Below w.heap.size w w' := by
  have hmf : ∀ (fn : Fn) (first cap : Array Value) (w : World), (Instr.makeFunc fn first cap).run Tryz.prog w = .ok (.func fn first cap) w := fun _ _ _ _ => rfl
  obtain ⟨W1, hW1⟩ : ∃ W1, (w.alloc (.cells #[.string (S P.id), nv, fv] 25)).alloc (.cells #[.int .i64 i] 3) = W1 := ⟨_, rfl⟩
  have hB1 : Below w.heap.size w W1 := by rw [← hW1]; exact ((Below.refl _ w).alloc (Nat.le_refl _) _).alloc (by simp) _
  have hc : W1.cell? ⟨w.heap.size + 1, 0, none⟩ = some (.int .i64 i) := by
    rw [← hW1]
    have := World.cell?_alloc_new (w.alloc (.cells #[.string (S P.id), nv, fv] 25)) #[.int .i64 i] 3 0
    rw [World.size_alloc] at this
    exact this
  have hlt : w.heap.size + 1 < W1.heap.size := by rw [← hW1]; simp
  have CC := placesRowFlow (kf := 22) (caps := #[.pointer (some ⟨w.heap.size + 1, 0, none⟩)]) (fun f => f.dst == i) (hp.fs.up hB1) hz.fl (enters_of Tryz.func22 (by kernel_rfl) rfl) (fun x _ W hW => ins1_any x W ((hW.cell (p := ⟨w.heap.size + 1, 0, none⟩) hlt).trans hc) (Nat.lt_of_lt_of_le hlt hW.size))
  have HW : Hid (_ = W1) := hW1
  have HB : Hid (Below w.heap.size w W1) := hB1
  obtain ⟨na, nc, rfl, -⟩ := hp.ns
  obtain ⟨fa, fc, rfl, -⟩ := hp.fs
  have HR : Hid (plc (fun f => f.dst == i) P.flows = ins P i) := by show _ = _; rfl
  rw [HR.out] at CC
  clear hW1 hB1 hc hp hz hlt HR
  generalize ins P i = r at *
  go_enter Tryz.func8, Tryz.ntmps8
  go_wp2_with (go_at_call 20; rw [HW.out]; refine CC.mono ?_; rintro e w1 ⟨ra, rc, rfl, hr, hb1⟩; (have B2 : Hid (Ir w.heap.size w1 ra r ∧ Below w.heap.size w w1) := ⟨(row_ir hr).low HB.out.size, bel_of HB.out hb1 (Nat.le_refl _)⟩); clear hb1 hr CC)
  go_ret
  exact ⟨_, _, rfl, B2.out⟩
end Go.Proofs.YtkbhngdabfoboabGreatDoor.m11
namespace Go.Proofs.YtkbhngdabfoboabGreatDoor.m11
open Go.Proofs.YtkbhngdabfoboabGreatDoor.x10 hiding bel_of
open Go.RowKit Go.Shelf Go.Sort
open Go.Lib hiding intOf

/-- block b has the n numbers f -/
def Ca (w : World) (b n : Nat) (f : Nat → Int) : Prop := ∃ a, Bo 3 w b a ∧ ∀ j, j < n → a[j]? = some (.int .i64 (f j))
theorem Ca.lt {w : World} {b n : Nat} {f : Nat → Int} (h : Ca w b n f) : b < w.heap.size := by obtain ⟨a, h, -⟩ := h; exact h.lt
theorem Ca.c {w : World} {b n : Nat} {f : Nat → Int} (h : Ca w b n f) {j : Nat} (hj : j < n) : w.cell? ⟨b, j, none⟩ = some (.int .i64 (f j)) := by obtain ⟨a, h1, h2⟩ := h; rw [h1.c]; exact h2 j hj
theorem Ca.f {w : World} {b n : Nat} {f : Nat → Int} (h : Ca w b n f) (j : Nat) : w.frozen? ⟨b, j, none⟩ = false := by obtain ⟨a, h1, h2⟩ := h; exact h1.f j
theorem Ca.up {w w' : World} {b n : Nat} {f : Nat → Int} (h : Ca w b n f) (hb : Below w.heap.size w w') : Ca w' b n f := by obtain ⟨a, h1, h2⟩ := h; exact ⟨a, (hb.block b h1.lt).trans h1, h2⟩
theorem Ca.same {w : World} {b n : Nat} {f g : Nat → Int} (h : Ca w b n f) (hg : ∀ j, j < n → f j = g j) : Ca w b n g := by obtain ⟨a, h1, h2⟩ := h; exact ⟨a, h1, fun j hj => by rw [h2 j hj, hg j hj]⟩
theorem Ca.far {w : World} {b n : Nat} {f : Nat → Int} (h : Ca w b n f) {k : Nat} (hk : b ≠ k) (i : Nat) (v : Value) : Ca (w.setCell ⟨k, i, none⟩ v) b n f := by obtain ⟨a, h1, h2⟩ := h; exact ⟨a, h1.far hk i v, h2⟩
theorem Ca.set {w : World} {b n : Nat} {f : Nat → Int} (h : Ca w b n f) {m : Nat} (hm : m < n) (v : Int) : Ca (w.setCell ⟨b, m, none⟩ (.int .i64 v)) b n (fun x => if x = m then v else f x) := by
  obtain ⟨a, h1, h2⟩ := h
  refine ⟨_, h1.set m _, fun j hj => ?_⟩
  have hs : m < a.size := (Array.getElem?_eq_some_iff.1 (h2 m hm)).1
  by_cases e : j = m
  · subst e; simp [hs]
  · rw [Array.getElem?_setIfInBounds_ne (by omega), h2 j hj]; simp [e]
theorem Ca.new (w : World) (n : Nat) (Z : Array Value) (hZ : ∀ j, j < n → Z[j]? = some (.int .i64 0)) : Ca (w.alloc (.cells Z 3)) w.heap.size n (fun _ => 0) := ⟨Z, Array.getElem?_push_size, hZ⟩
theorem Ir.far {B : Nat} {w : World} {a : Option Addr} {l : List Int} (h : Ir B w a l) {k : Nat} (hk : k < B) (i : Nat) (v : Value) : Ir B (w.setCell ⟨k, i, none⟩ v) a l := h.imp id fun ⟨b, h1, h2, h3, h4⟩ => ⟨b, h1, h2, by simpa using h3, fun j hj => (World.cell?_of_block (w := w) (heap_setCell_other w ⟨k, i, none⟩ b v (show b ≠ k by omega))).trans (h4 j hj)⟩
/-- two rows of counts, bo and bi -/
structure Fw (W1 : World) (bo bi n : Nat) (wr : World) (f g : Nat → Int) : Prop where
  lo : W1.heap.size ≤ bo
  hi : bo < bi
  bel : Below W1.heap.size W1 wr
  o : Ca wr bo n f
  i : Ca wr bi n g
theorem Fw.up {W1 : World} {bo bi n : Nat} {wr w' : World} {f g : Nat → Int} (h : Fw W1 bo bi n wr f g) (hb : Below wr.heap.size wr w') : Fw W1 bo bi n w' f g := ⟨h.lo, h.hi, bel_of h.bel hb (Nat.le_refl _), h.o.up hb, h.i.up hb⟩
theorem Fw.drewN {W1 : World} {bo bi n : Nat} {wr : World} {f g : Nat → Int} (h : Fw W1 bo bi n wr f g) (q : Nat) : Fw W1 bo bi n (wr.drewN q) f g := h.up (below_drewN (Below.refl _ _) q)
theorem Ir.drewN {B : Nat} {w : World} {a : Option Addr} {l : List Int} (h : Ir B w a l) (q : Nat) : Ir B (w.drewN q) a l := h.up (below_drewN (Below.refl _ _) q)
theorem Fw.incO {W1 : World} {bo bi n : Nat} {wr : World} {f g f' : Nat → Int} (h : Fw W1 bo bi n wr f g) {m : Nat} (hm : m < n) (hf : ∀ j, j < n → (if j = m then 1 else f j) = f' j) : Fw W1 bo bi n (wr.setCell ⟨bo, m, none⟩ (.int .i64 1)) f' g := ⟨h.lo, h.hi, h.bel.setCell h.lo _, (h.o.set hm 1).same hf, h.i.far (Nat.ne_of_gt h.hi) _ _⟩
theorem Fw.incI {W1 : World} {bo bi n : Nat} {wr : World} {f g g' : Nat → Int} (h : Fw W1 bo bi n wr f g) {m : Nat} (hm : m < n) (hf : ∀ j, j < n → (if j = m then 1 else g j) = g' j) : Fw W1 bo bi n (wr.setCell ⟨bi, m, none⟩ (.int .i64 1)) f g' := ⟨h.lo, h.hi, h.bel.setCell (Nat.le_trans h.lo (Nat.le_of_lt h.hi)) _, h.o.far (Nat.ne_of_lt h.hi) _ _, (h.i.set hm 1).same hf⟩
theorem Fw.same {W1 : World} {bo bi n : Nat} {wr : World} {f g f' g' : Nat → Int} (h : Fw W1 bo bi n wr f g) (hf : ∀ j, j < n → f j = f' j) (hg : ∀ j, j < n → g j = g' j) : Fw W1 bo bi n wr f' g' := ⟨h.lo, h.hi, h.bel, h.o.same hf, h.i.same hg⟩
/-- what is counted when the nodes below i are done, and of node i the flows T -/
def ctf (g : Fl → Int) (F : List Fl) (i : Int) (T : List Int) (j : Nat) : Int := if ((F[j]?.map fun f => decide (g f < i)).getD false || T.contains (j : Int)) = true then 1 else 0
theorem plc_rise {α : Type} (q : α → Bool) (l : List α) : (plc q l).Pairwise (· < ·) := by
  unfold plc
  rw [List.pairwise_map]
  exact (List.pairwise_lt_range.filter _).imp fun h => by omega
theorem plc_at {g : Fl → Int} {F : List Fl} {i : Int} {k : Nat} (hk : k < (plc (fun f => g f == i) F).length) : ∃ m : Nat, (plc (fun f => g f == i) F)[k] = (m : Int) ∧ ∃ hm : m < F.length, g F[m] = i := by
  obtain ⟨m, h1, h2, h3⟩ := plc_nonneg (List.getElem_mem hk)
  exact ⟨m, h1, h2, by simpa using h3⟩
theorem ctf_start {g : Fl → Int} {F : List Fl} (h : ∀ j (hj : j < F.length), 0 ≤ g F[j]) (j : Nat) (hj : j < F.length) : 0 = ctf g F 0 [] j := by
  have := h j hj
  unfold ctf
  rw [List.getElem?_eq_getElem hj]
  have h2 : ¬ g F[j] < 0 := by omega
  simp [h2]
theorem ctf_zero {g : Fl → Int} {F : List Fl} {i : Int} {k : Nat} (hk : k < (plc (fun f => g f == i) F).length) {m : Nat} (hm : (plc (fun f => g f == i) F)[k] = (m : Int)) (hml : m < F.length) (hg : g F[m] = i) : ctf g F i ((plc (fun f => g f == i) F).take k) m = 0 := by
  have hr := plc_rise (fun f => g f == i) F
  unfold ctf
  rw [List.getElem?_eq_getElem hml]
  have h2 : ¬ g F[m] < i := by omega
  have h3 : (m : Int) ∉ (plc (fun f => g f == i) F).take k := by
    intro hc
    obtain ⟨x, hx, he⟩ := List.getElem_of_mem hc
    rw [List.getElem_take] at he
    have hxk : x < k := by rw [List.length_take] at hx; omega
    have := List.pairwise_iff_getElem.1 hr x k (by omega) hk hxk
    omega
  simp [h2, h3]
theorem ctf_step {g : Fl → Int} {F : List Fl} {i : Int} {k : Nat} (hk : k < (plc (fun f => g f == i) F).length) {m : Nat} (hm : (plc (fun f => g f == i) F)[k] = (m : Int)) (j : Nat) : (if j = m then 1 else ctf g F i ((plc (fun f => g f == i) F).take k) j) = ctf g F i ((plc (fun f => g f == i) F).take (k + 1)) j := by
  unfold ctf
  rw [List.take_succ_eq_append_getElem hk, hm]
  by_cases e : j = m
  · subst e; simp
  · have e2 : ¬ (j : Int) = (m : Int) := by omega
    simp [e, e2]
theorem ctf_end {g : Fl → Int} {F : List Fl} {i : Int} (j : Nat) (hj : j < F.length) : ctf g F i (plc (fun f => g f == i) F) j = ctf g F (i + 1) [] j := by
  unfold ctf
  rw [List.getElem?_eq_getElem hj]
  have h1 : (j : Int) ∈ plc (fun f => g f == i) F ↔ g F[j] = i := by
    constructor
    · intro h
      obtain ⟨m, h1, h2, h3⟩ := plc_nonneg h
      obtain rfl : j = m := by omega
      simpa using h3
    · intro h; exact plc_mem hj (by simp [h])
  by_cases e : g F[j] = i
  · have h2 := h1.2 e
    have h3 : g F[j] < i + 1 := by omega
    simp [h2, h3]
  · have h2 : (j : Int) ∉ plc (fun f => g f == i) F := fun h => e (h1.1 h)
    by_cases h3 : g F[j] < i
    · have h4 : g F[j] < i + 1 := by omega
      simp [h3, h4]
    · have h4 : ¬ g F[j] < i + 1 := by omega
      simp [h2, h3, h4]
theorem ctf_all {g : Fl → Int} {F : List Fl} {N : Int} (j : Nat) (hj : j < F.length) (h : g F[j] < N) : ctf g F N [] j = 1 := by
  unfold ctf
  rw [List.getElem?_eq_getElem hj]
  simp [h]
theorem zeros {n : Nat} (j : Nat) (hj : j < n) : (madeCells (Value.int .i64 0).cells (n * 1))[j]? = some (.int .i64 0) := by
  unfold madeCells
  simp [Value.cells, hj, Nat.mod_one]
theorem mk_ints {i0 : TypeInfo} (hi0 : Tryz.prog.info? 3 = some i0) (hz0 : i0.zero = some (.int .i64 0)) (hz1 : i0.size = 1) (hz2 : i0.bytes = 8) (n : Nat) (hn : n ≤ 4398046511104) (w : World) : (Instr.makeSlice 30 (.int .i64 (n : Int)) (.int .i64 (n : Int))).run Tryz.prog w = .ok (.slice (some ⟨w.heap.size, 0, none⟩) n n) (w.alloc (.cells (madeCells (Value.int .i64 0).cells (n * 1)) 3)) := by
  have := run_make (P := Tryz.prog) w 30 3 i0 _ Tryz.underlying30 hi0 hz0 .i64 .i64 n n (by omega) (Int.le_refl _) (by rw [hz2]; omega) (by omega)
  rw [hz1, Int.toNat_natCast] at this
  exact this
end Go.Proofs.YtkbhngdabfoboabGreatDoor.m11

/-
  One range over a map that is not nil: its cells are lent, the rounds are told what was picked of them, and the count is set back, however the range is left.
-/
import Derived.Test.YtkohcdefhaokiaaSPick
import Derived.Stop.RegionWithIn
import Derived.Deep.RegionHeld3
namespace Go.Proofs.Ytkohcdefhaokiaa
open Go.RowKit Go.Shelf Go.Lib Go.Sort

attribute [local go_sem] Oper.semAt_some

/-- what a round must keep: the cells, the count, and what was laid when the range began -/
def Xp (n₁ cb : Nat) (s : Nat × Nat) (k : Nat) : Prop := k = cb ∨ k = s.1 ∨ (n₁ ≤ k ∧ k < s.2)

/-- what the end of a range does to memory -/
def Back (n₁ c lb : Nat) (A W2 : World) : Prop :=
  Ch (fun k => k = lb ∨ (n₁ ≤ k ∧ ∃ o, A.heap[k]? = some o ∧ o.isCells = false)) A W2 ∧ Bx W2 lb (.int .i64 (c : Int)) 3

/-- a range over a slice, whichever way it goes -/
def Iter (gi bs cb : Nat) (sv : Value) (its : List Itm) (zs : List Ent) : Prop :=
  (∀ args w, (callFunc gi args).run Try.prog w = .ok (.enter gi args) w) ∧
  ∀ (l : Nat) (J Jx : List Itm → World → Prop), (∀ pre W o, J pre W → J pre (W.alloc o)) →
    (∀ pre x W, J pre W → pre ++ [x] <+: its → Yld Try.prog l (encs x) W fun e W' =>
      (e = .returned (.bool true) ∧ J (pre ++ [x]) W' ∧ Kq (fun k => k = cb ∨ k = bs) W W') ∨ (e = .returned (.bool false) ∧ Jx (pre ++ [x]) W')) →
    ∀ W, Bx W bs sv 60 → Sl W sv cb zs → J [] W →
    Calls Try.prog gi #[.func (.yield l) #[] #[], .pointer (some ⟨bs, 0, none⟩)] W fun e W' => (∃ v, e = .returned v) ∧ (J its W' ∨ ∃ pre, Jx pre W')

theorem placed_map (zs : List Ent) : (placed zs).map (·.2) = zs := by
  apply List.ext_getElem
  · simp [placed]
  · intro i h1 h2; simp [placed, h2]
theorem placedBack_map (zs : List Ent) : (placedBack zs.reverse).map (·.2) = zs := by
  apply List.ext_getElem
  · simp [placedBack]
  · intro i h1 h2
    have h3 : zs.length - 1 - i < zs.length := by omega
    simp only [placedBack, List.length_reverse, List.map_map, List.getElem_map, List.getElem_range, Function.comp_apply]
    rw [List.getElem?_reverse h3]
    have h4 : zs.length - 1 - (zs.length - 1 - i) = i := by omega
    rw [h4]
    simp [h2]

theorem itv_iter {W : World} {n₀ cb : Nat} {itv : Value} {zs : List Ent} (h : Itv W n₀ cb itv zs) : ∃ gi bs sv its zs', itv = .func (.func gi) #[] #[.pointer (some ⟨bs, 0, none⟩)] ∧ n₀ ≤ bs ∧ Bx W bs sv 60 ∧ its.map (·.2) = zs ∧ Sl W sv cb zs' ∧ Iter gi bs cb sv its zs' := by
  obtain ⟨bs, sv, hb, hx, ⟨rfl, hs⟩ | ⟨rfl, hs⟩⟩ := h
  · exact ⟨_, bs, sv, placed zs, zs, rfl, hb, hx, placed_map zs, hs, enters_of Try.func55 (by kernel_rfl) rfl, fun l J Jx hJa hY W hbW hsW h0 => all1_any l bs cb sv zs J Jx hJa hY W hbW hsW h0⟩
  · exact ⟨_, bs, sv, placedBack zs.reverse, zs.reverse, rfl, hb, hx, placedBack_map zs, hs, enters_of Try.func67 (by kernel_rfl) rfl, fun l J Jx _ hY W hbW hsW h0 => back1_any l bs cb sv zs.reverse J Jx hY W hbW hsW h0⟩

/-- what the range keeps for itself -/
structure Hold (n₁ l b3 lb bs c : Nat) (sv : Value) (W : World) : Prop where
  y : Bx W n₁ (.func (.yield l) #[] #[]) 86
  b : Bx W b3 (.pointer (some ⟨lb, 0, none⟩)) 61
  c : Bx W lb (.int .i64 ((c + 1 : Nat) : Int)) 3
  s : Bx W bs sv 60
theorem Hold.kq {n₁ l b3 lb bs c cb n₀ : Nat} {sv : Value} {W W' : World} (h : Hold n₁ l b3 lb bs c sv W) (hk : Kq (Xp n₁ cb (lb, n₀)) W W') (h1 : n₁ < n₀) (h2 : n₁ ≤ b3 ∧ b3 < n₀) (h3 : n₁ ≤ bs ∧ bs < n₀) : Hold n₁ l b3 lb bs c sv W' :=
  ⟨kq_bx hk (.inr (.inr ⟨Nat.le_refl _, h1⟩)) h.y, kq_bx hk (.inr (.inr h2)) h.b, kq_bx hk (.inr (.inl rfl)) h.c, kq_bx hk (.inr (.inr h3)) h.s⟩
theorem bx_kept {W W' : World} {b : Nat} {v : Value} {t : TypeId} {row : Option Nat} (h : Bx W b v t) (hg : W.grownBy W' row) (hr : ∀ r, row = some r → ∃ o : Obj, W.heap[r]? = some o ∧ o.isCells = false) : Bx W' b v t :=
  (hg.block b h.lt (fun e => by obtain ⟨o, ho, hc⟩ := hr b e.symm; rw [show W.heap[b]? = _ from h] at ho; cases ho; cases hc)).trans h
theorem Hold.kept {n₁ l b3 lb bs c : Nat} {sv : Value} {W W' : World} {row : Option Nat} (h : Hold n₁ l b3 lb bs c sv W) (hg : W.grownBy W' row) (hr : ∀ r, row = some r → ∃ o : Obj, W.heap[r]? = some o ∧ o.isCells = false) : Hold n₁ l b3 lb bs c sv W' :=
  ⟨bx_kept h.y hg hr, bx_kept h.b hg hr, bx_kept h.c hg hr, bx_kept h.s hg hr⟩
theorem Two.kept {D : Nat} {r : Obj} {W W' : World} {row : Option Nat} {B : Nat} (h : Two D r W) (hB : D + 1 < B) (hg : W.grownBy W' row) (hr : ∀ r, row = some r → B ≤ r ∧ ∃ o : Obj, W.heap[r]? = some o ∧ o.isCells = false) : Two D r W' :=
  ⟨(hg.block D (Array.getElem?_eq_some_iff.1 h.1).1 (fun e => by have := (hr _ e.symm).1; omega)).trans h.1, (hg.block (D + 1) (Array.getElem?_eq_some_iff.1 h.2).1 (fun e => by have := (hr _ e.symm).1; omega)).trans h.2⟩
theorem OwnFrom.up {β : Type} {B B' : Nat} {I : β → World → Prop} (h : OwnFrom B I) (hB : B ≤ B') : OwnFrom B' I := fun s W W' row hs hg hr => h s W W' row hs hg (fun r e => ⟨Nat.le_trans hB (hr r e).1, (hr r e).2⟩)

set_option maxRecDepth 100000 in
set_option maxHeartbeats 4000000 in
theorem over1_any {W1 : World} {l D bm bp mb cb : Nat} {es zs : List Ent} {sv : Value} {q : Option Nat} {c : Nat} {pf : Nat} {pc : Array Value} {R0 : Obj} {R1 : Code → Obj} (hl : l = D + 1) (hD : D + 1 < W1.heap.size)
    (hM : Mp W1 mb es sv q c) (hc : c < 4611686018427387904)
    (hbm : Bx W1 bm (.pointer (some ⟨mb, 0, none⟩)) 24) (hbp : Bx W1 bp (.func (.func pf) #[] pc) 67)
    (epf : ∀ args w, (callFunc pf args).run Try.prog w = .ok (.enter pf args) w)
    (hpick : ∀ W, Ch (fun b => b = mb ∨ q = some b) W1 W → W.ownsRow 0 69 2 sv es.length (flat es) → Calls Try.prog pf (#[sv] ++ pc) W fun e W' => ∃ itv, e = .returned itv ∧ Itv W' W.heap.size cb itv zs ∧ Below W.heap.size W W')
    (hbmX : bm ≠ mb ∧ q ≠ some bm) (hbpX : bp ≠ mb ∧ q ≠ some bp)
    (I : Nat × Nat → List Ent → World → Prop) (Ix : Nat × Nat → Code → List Ent → World → Prop) (hI : ∀ s, OwnFrom W1.heap.size (I s)) (hIx : ∀ s c, OwnFrom W1.heap.size (Ix s c))
    (h2 : Two D R0 W1) (hR0 : R0.isCells = false) (hR1 : ∀ cc, (R1 cc).isCells = false)
    (hstart : ∀ lb W0, Mp W0 mb es sv (some lb) (c + 1) → Ch (fun b => b = mb ∨ q = some b) W1 W0 → (q = some lb ∨ (q = none ∧ W1.heap.size ≤ lb)) → I (lb, W0.heap.size) [] W0)
    (hY : ∀ s pre x W, I s pre W → pre ++ [x] <+: zs → Two D R0 W → Yld Try.prog l #[.string x.1, .int .i64 x.2] W fun e W' =>
      (e = .returned (.bool true) ∧ KeepsFrom W1.heap.size W W' ∧ I s (pre ++ [x]) W' ∧ Kq (Xp W1.heap.size cb s) W W' ∧ Two D R0 W') ∨ (e = .returned (.bool false) ∧ KeepsFrom W1.heap.size W W' ∧ Kq (Xp W1.heap.size cb s) W W' ∧ ∃ cc, Ix s cc (pre ++ [x]) W' ∧ Two D (R1 cc) W')) :
    Calls Try.prog 53 #[.func (.yield l) #[] #[], .pointer (some ⟨bm, 0, none⟩), .pointer (some ⟨bp, 0, none⟩)] W1 fun e W2 => (∃ v, e = .returned v) ∧
      ((∃ s A, I s zs A ∧ Back W1.heap.size c s.1 A W2 ∧ Two D R0 W2) ∨ (∃ s cc pre A, Ix s cc pre A ∧ Back W1.heap.size c s.1 A W2 ∧ Two D (R1 cc) W2)) := by
  have hmf : ∀ (fn : Fn) (first cap : Array Value) (w : World), (Instr.makeFunc fn first cap).run Try.prog w = .ok (.func fn first cap) w := fun _ _ _ _ => rfl
  obtain ⟨Wa, hWa⟩ : ∃ Wa, Wa = W1.alloc (.cells #[.func (.yield l) #[] #[]] 86) := ⟨_, rfl⟩
  have hsa : Wa.heap.size = W1.heap.size + 1 := by rw [hWa]; simp
  have hBa : Below W1.heap.size W1 Wa := by rw [hWa]; exact (Below.refl _ _).alloc (Nat.le_refl _) _
  have bya : Bx Wa W1.heap.size (.func (.yield l) #[] #[]) 86 := by rw [hWa]; exact Bx.new _ _ _
  have hMa := hM.below hBa
  have hbma := hbm.below hBa hbm.lt
  have hbpa := hbp.below hBa hbp.lt
  have hcm := cell?_alloc_some (.cells #[.func (.yield l) #[] #[]] 86) hbm.cell
  have HL : Hid (l = D + 1) := hl
  clear hl
  refine (callsIn_wide (n := 9)).1 ?_
  refine callsIn_of_wp_marks Try.func53 rfl trivial ?_ rfl
  simp only [Try.ntmps53, List.size_toArray, List.length_cons, List.length_nil, Nat.reduceAdd, Nat.reduceSub, Array.replicate_succ, Array.replicate_zero, List.push_toArray, List.append_toArray, List.nil_append, List.cons_append]
  have HM : Hid (Mp W1 mb es sv q c ∧ Mp Wa mb es sv q c) := ⟨hM, hMa⟩
  clear hM hMa
  gi_wp2_with (first
    | (refine ⟨trivial, ?_⟩; gi_at_call 54; rw [← hWa]; refine (callsIn_wide.2 (lend_any HM.out.2 hc)).mono ?_; rintro e w2 ⟨b3, lb, rfl, hM2, hb3, hs3, hlb, hch2⟩; have hcm2 := (hbma.ch hch2 (fun h => h.elim hbmX.1 hbmX.2)).cell; have hcp2 := (hbpa.ch hch2 (fun h => h.elim hbpX.1 hbpX.2)).cell; have hc02 := hM2.cell0))
  have hpk : Calls Try.prog pf (#[sv] ++ pc) w2.drew fun e W' => ∃ itv, e = .returned itv ∧ Itv W' w2.heap.size cb itv zs ∧ Below w2.heap.size w2 W' := (hpick w2.drew ((Ch.of_below hBa).trans hch2).drew hM2.row).mono (by
    rintro e W' ⟨itv, h1, h2, h3⟩
    exact ⟨itv, h1, h2, ⟨h3.os, h3.tape, h3.output, h3.size, h3.block⟩⟩)
  refine wpIn_mono ?_ NoPanic.imp
  gi_region_with (first | (refine ⟨trivial, ?_⟩; refine (callsIn_wide.2 hpk).mono ?_; rintro e w3 ⟨itv, rfl, hI3, hB3⟩))
  all_goals refine NoPanic.normal ?_
  all_goals obtain ⟨gi, bs, sv3, its, zs', rfl, hbs, hbx3, hits, hsl3, hiter⟩ := itv_iter hI3
  all_goals gi_wp2
  all_goals
    have hs2 := hch2.size
    have hs3' := hB3.size
    have hsa' := hsa
    have hlt3 : b3 < w2.heap.size := hb3.lt
    have hlbx : Bx w2 lb (.int .i64 ((c + 1 : Nat) : Int)) 3 := by
      rcases hM2.lent with ⟨h0, _⟩ | ⟨b, e, hb⟩
      · cases h0
      · cases e; exact hb
    have hchA : Ch (fun b => b = mb ∨ q = some b) W1 w3 := ((Ch.of_below hBa).trans hch2).trans (Ch.of_below hB3)
    have hyb : Bx w3 W1.heap.size (.func (.yield l) #[] #[]) 86 := by
      refine (bya.ch hch2 ?_).below hB3 (by omega)
      rintro (e | e)
      · have := HM.out.1.lt; omega
      · rcases HM.out.1.lent with ⟨h0, _⟩ | ⟨b, eb, hb⟩
        · rw [h0] at e; cases e
        · rw [eb] at e; cases e
          have := (Array.getElem?_eq_some_iff.1 hb).1
          omega
    have hold0 : Hold W1.heap.size l b3 lb bs c sv3 w3 := ⟨hyb, hb3.below hB3 hlt3, hlbx.below hB3 hlbx.lt, hbx3⟩
    have hM3 := hM2.below hB3
    have hI0 : I (lb, w3.heap.size) [] w3 := hstart lb w3 hM3 hchA (hlb.imp id (fun h => ⟨h.1, by omega⟩))
    have h23 : Two D R0 w3 := by
      refine h2.ch hchA ?_ ?_
      · rintro (e | e)
        · have e1 := h2.1; rw [e, HM.out.1.hd] at e1; cases e1
        · rcases HM.out.1.lent with ⟨h0, _⟩ | ⟨b, eb, hb⟩
          · rw [h0] at e; cases e
          · rw [eb] at e; cases e
            rw [h2.1] at hb; cases hb
      · rintro (e | e)
        · have e1 := h2.2; rw [e, HM.out.1.hd] at e1; cases e1; cases hR0
        · rcases HM.out.1.lent with ⟨h0, _⟩ | ⟨b, eb, hb⟩
          · rw [h0] at e; cases e
          · rw [eb] at e; cases e
            rw [h2.2] at hb; cases hb; cases hR0
    have hb3r : W1.heap.size ≤ b3 ∧ b3 < w3.heap.size := by omega
    have hbsr : W1.heap.size ≤ bs ∧ bs < w3.heap.size := ⟨by omega, hbx3.lt⟩
    have hn13 : W1.heap.size < w3.heap.size := by omega
    have hsz3 : W1.heap.size ≤ w3.heap.size := by omega
    refine range_law (α := Itm) (σ := Unit) (gf := gi) (lb := #[.pointer (some ⟨bs, 0, none⟩)]) rfl hiter.1 encs (fun _ => rfl)
      (fun _ pre W => I (lb, w3.heap.size) (pre.map (·.2)) W ∧ Two D R0 W ∧ Hold W1.heap.size l b3 lb bs c sv3 W)
      (fun _ cc _ W => cc = .ret ∧ ∃ c0 pre0, Ix (lb, w3.heap.size) c0 pre0 W ∧ Two D (R1 c0) W ∧ Hold W1.heap.size l b3 lb bs c sv3 W)
      (fun _ => Kq (fun k => k = cb ∨ k = bs)) (fun _ pre x => pre ++ [x] <+: its)
      (fun _ W => I (lb, w3.heap.size) zs W ∧ Two D R0 W ∧ Hold W1.heap.size l b3 lb bs c sv3 W)
      (fun cc _ W => cc = .ret ∧ ∃ c0 pre0, Ix (lb, w3.heap.size) c0 pre0 W ∧ Two D (R1 c0) W ∧ Hold W1.heap.size l b3 lb bs c sv3 W)
      (fun _ pre x a' W => (I (lb, w3.heap.size) (pre.map (·.2)) W ∧ Two D R0 W ∧ Hold W1.heap.size l b3 lb bs c sv3 W) ∧ ∃ Bc, W.heap[Bc]? = some (.cells #[.string x.2.1, .int .i64 x.2.2] 69 (0, 0)) ∧ a' = { tmps := #[.func (.yield l) #[] #[], .pointer (some ⟨bm, 0, none⟩), .pointer (some ⟨bp, 0, none⟩), .pointer (some ⟨W1.heap.size, 0, none⟩), .func (.func 70) #[] #[.pointer (some ⟨b3, 0, none⟩)], undef, .pointer (some ⟨Bc, 0, none⟩), .pointer (some ⟨mb, 0, none⟩), .bool false, .pointer (some ⟨mb, 0, none⟩), .func (.func 70) #[] #[.pointer (some ⟨b3, 0, none⟩)], .func (.func 70) #[] #[.pointer (some ⟨b3, 0, none⟩)], .func (.func pf) #[] pc, .pointer (some ⟨mb, 0, none⟩), .pointer (some ⟨mb, 0, none⟩), .pointer (some ⟨mb, 0, none⟩), sv, .func (.func gi) #[] #[.pointer (some ⟨bs, 0, none⟩)], .int .i64 (x.1 : Int), .agg #[.string x.2.1, .int .i64 x.2.2], undef, undef, undef, undef, undef, undef, undef], defers := [] })
      ?hI ?hIx ?hE ?hEx ?hA (fun _ => Kq.trans) (fun _ W l o o' _ h ho => Kq.put W l o o' h ho) ?assign ?body ?seq ?done ?stop
    case hI =>
      exact fun _ s A B row ⟨h1, h2, h3⟩ hg hr => ⟨hI _ _ A B row h1 hg (fun r e => ⟨Nat.le_trans hsz3 (hr r e).1, (hr r e).2⟩), h2.kept (by omega) hg hr, h3.kept hg (fun r e => (hr r e).2)⟩
    case hIx =>
      rintro _ cc s A B row ⟨h0, c0, pre0, h1, h2, h3⟩ hg hr
      exact ⟨h0, c0, pre0, hIx _ _ _ A B row h1 hg (fun r e => ⟨Nat.le_trans hsz3 (hr r e).1, (hr r e).2⟩), h2.kept (by omega) hg hr, h3.kept hg (fun r e => (hr r e).2)⟩
    case hE =>
      exact fun s A B row ⟨h1, h2, h3⟩ hg hr => ⟨hI _ _ A B row h1 hg (fun r e => ⟨Nat.le_trans hsz3 (hr r e).1, (hr r e).2⟩), h2.kept (by omega) hg hr, h3.kept hg (fun r e => (hr r e).2)⟩
    case hEx =>
      rintro cc s A B row ⟨h0, c0, pre0, h1, h2, h3⟩ hg hr
      exact ⟨h0, c0, pre0, hIx _ _ _ A B row h1 hg (fun r e => ⟨Nat.le_trans hsz3 (hr r e).1, (hr r e).2⟩), h2.kept (by omega) hg hr, h3.kept hg (fun r e => (hr r e).2)⟩
    case hA =>
      rintro _ pre x a' _ A B row ⟨⟨h1, h2, h3⟩, Bc, hBc, ha⟩ hg hr
      refine ⟨⟨hI _ _ A B row h1 hg (fun r e => ⟨Nat.le_trans hsz3 (hr r e).1, (hr r e).2⟩), h2.kept (by omega) hg hr, h3.kept hg (fun r e => (hr r e).2)⟩, Bc, ?_, ha⟩
      exact (hg.block Bc (Array.getElem?_eq_some_iff.1 hBc).1 (fun e => by obtain ⟨_, o, ho, hc⟩ := hr Bc e.symm; rw [hBc] at ho; cases ho; cases hc)).trans hBc
    case assign =>
      rintro m l' _ pre x W K ⟨h1, h2, h3⟩ hnx hK
      have hal : W.grownBy (W.alloc (.cells #[.string x.2.1, .int .i64 x.2.2] 69)) none := World.grownBy_alloc W _ none
      have hK' := fun a' => hK a' (W.alloc (.cells #[.string x.2.1, .int .i64 x.2.2] 69)) ((KeepsOthers.alloc _ _).from _) ((Kq.refl _ _).alloc _)
      have hA1 : (I (lb, w3.heap.size) (pre.map (·.2)) (W.alloc (.cells #[.string x.2.1, .int .i64 x.2.2] 69)) ∧ Two D R0 (W.alloc (.cells #[.string x.2.1, .int .i64 x.2.2] 69)) ∧ Hold W1.heap.size l b3 lb bs c sv3 (W.alloc (.cells #[.string x.2.1, .int .i64 x.2.2] 69))) :=
        ⟨hI _ _ W _ none h1 hal (fun r e => by cases e), h2.kept (B := D + 2) (by omega) hal (fun r e => by cases e), h3.kept hal (fun r e => by cases e)⟩
      have HK : Hid (∀ a', a' = _ → K a' (W.alloc (.cells #[.string x.2.1, .int .i64 x.2.2] 69))) := fun a' ha => hK' a' ⟨hA1, W.heap.size, heap_alloc_new W _, ha⟩
      clear hK hK' hA1
      simp only [encs]
      gi_wp2
      exact HK.out _ rfl
    case body =>
      rintro m l' _ pre x a' W ⟨⟨h1, h2', h3⟩, Bc, hBc, rfl⟩ hnx
      have hyc := h3.y.cell
      have hc1 : W.cell? ⟨Bc, 0, none⟩ = some (.string x.2.1) := by simp [World.cell?, hBc]
      have hc2 : W.cell? ⟨Bc, 1, none⟩ = some (.int .i64 x.2.2) := by simp [World.cell?, hBc]
      have hpx : pre.map (·.2) ++ [x.2] <+: zs := by
        have := List.IsPrefix.map (fun y : Itm => y.2) hnx
        rw [hits] at this
        simpa using this
      obtain ⟨fn, tmps, assign, body, hyl, hR⟩ := hY (lb, w3.heap.size) (pre.map (·.2)) x.2 W h1 hpx h2'
      have H3 : Hid (Hold W1.heap.size l b3 lb bs c sv3 W) := h3
      clear h1 h2' h3
      gi_wp2
      refine ⟨(fun h => by cases h), ?_⟩
      refine RoundIn.mono (F := Fence.wide.inRound l') (hR _) ?_
      rintro e W5 (⟨rfl, hkf, hI5, hk, h25⟩ | ⟨rfl, hkf, hk, cc, hx5, h25⟩)
      · have hh := H3.out.kq hk hn13 hb3r hbsr
        have hq : Kq (fun k => k = cb ∨ k = bs) W W5 := ⟨hk.1, fun k o hX => hk.2 k o (hX.elim .inl (fun e => .inr (.inr (by rw [e]; exact hbsr))))⟩
        have hkf' : KeepsFrom w3.heap.size W W5 := ⟨hkf.size, fun k o hB => hkf.same k o (by omega)⟩
        gi_wp2
        refine ⟨hkf', hq, ?_, h25, hh⟩
        simpa using hI5
      · have hh := H3.out.kq hk hn13 hb3r hbsr
        have hq : Kq (fun k => k = cb ∨ k = bs) W W5 := ⟨hk.1, fun k o hX => hk.2 k o (hX.elim .inl (fun e => .inr (.inr (by rw [e]; exact hbsr))))⟩
        have hkf' : KeepsFrom w3.heap.size W W5 := ⟨hkf.size, fun k o hB => hkf.same k o (by omega)⟩
        gi_wp2
        exact ⟨hkf', hq, rfl, cc, _, hx5, h25, hh⟩
    case seq =>
      intro W4 R0' R1' hR0' hR1' hb hs h2i hcap
      have hg4 : w3.grownBy W4 none := ⟨hb.os, hb.tape, hb.output, hb.size, fun k hk _ => hb.block k hk⟩
      have hnone : ∀ r : Nat, none = some r → ∃ o : Obj, w3.heap[r]? = some o ∧ o.isCells = false := fun r e => by cases e
      refine (hiter.2 (w3.heap.size + 1) (fun pre W => (I (lb, w3.heap.size) (pre.map (·.2)) W ∧ Two D R0 W ∧ Hold W1.heap.size l b3 lb bs c sv3 W) ∧ Two w3.heap.size R0' W)
        (fun _ W => ∃ cc, (cc = .ret ∧ ∃ c0 pre0, Ix (lb, w3.heap.size) c0 pre0 W ∧ Two D (R1 c0) W ∧ Hold W1.heap.size l b3 lb bs c sv3 W) ∧ Two w3.heap.size (R1' cc) W) ?ja ?cap W4 (hbx3.below hb hbx3.lt) (hsl3.below hb hsl3.lt) ?j0).mono ?fin
      case ja =>
        rintro pre W o ⟨⟨h1, h2', h3⟩, h4⟩
        have hal : W.grownBy (W.alloc o) none := World.grownBy_alloc W _ none
        exact ⟨⟨hI _ _ W _ none h1 hal (fun r e => by cases e), h2'.kept (B := D + 2) (by omega) hal (fun r e => by cases e), h3.kept hal (fun r e => by cases e)⟩, h4.kept (B := w3.heap.size + 2) (by omega) hal (fun r e => by cases e)⟩
      case cap =>
        rintro pre x W ⟨hi, h4⟩ hpx
        refine (hcap () pre x W hi hpx h4).mono ?_
        rintro e W' (⟨rfl, -, hi', hk, h4'⟩ | ⟨rfl, -, hk, cc, hx', h4'⟩)
        · exact .inl ⟨rfl, ⟨hi', h4'⟩, hk⟩
        · exact .inr ⟨rfl, cc, hx', h4'⟩
      case j0 =>
        exact ⟨⟨hI _ _ w3 _ none hI0 hg4 (fun r e => by cases e), h23.kept (B := D + 2) (by omega) hg4 (fun r e => by cases e), hold0.kept hg4 hnone⟩, h2i⟩
      case fin =>
        rintro e W' ⟨hv, ⟨⟨h1, h2', h3⟩, h4⟩ | ⟨pre, cc, hx', h4⟩⟩
        · refine ⟨hv, .inl ⟨its, ⟨?_, h2', h3⟩, h4⟩⟩
          rw [hits] at h1
          exact h1
        · exact ⟨hv, .inr ⟨cc, [], hx', h4⟩⟩
    case done =>
      rintro xs W ⟨h1, h2', h3⟩ hD3
      have hput : W.grownBy (W.putObj w3.heap.size (.deferred none)) (some w3.heap.size) := grownBy_putObj' W _ _
      have hrow : ∀ r : Nat, some w3.heap.size = some r → ∃ o : Obj, W.heap[r]? = some o ∧ o.isCells = false := fun r e => by cases e; exact ⟨_, hD3, rfl⟩
      have h3' := h3.kept hput hrow
      have hba := back_any h3'.b h3'.c hc 8
      have hout : (∃ s A, I s zs A ∧ Back W1.heap.size c s.1 A ((W.putObj w3.heap.size (.deferred none)).setCell ⟨lb, 0, none⟩ (.int .i64 (c : Int))) ∧ Two D R0 ((W.putObj w3.heap.size (.deferred none)).setCell ⟨lb, 0, none⟩ (.int .i64 (c : Int)))) := by
        have hCh : Ch (fun k => k = lb ∨ (W1.heap.size ≤ k ∧ ∃ o, W.heap[k]? = some o ∧ o.isCells = false)) W ((W.putObj w3.heap.size (.deferred none)).setCell ⟨lb, 0, none⟩ (.int .i64 (c : Int))) :=
          (Ch.of_grown hput (fun k e _ => by cases e; exact .inr ⟨hsz3, _, hD3, rfl⟩)).setCell ⟨lb, 0, none⟩ _ (fun _ => .inl rfl)
        refine ⟨(lb, w3.heap.size), W, h1, ⟨hCh, one0 h3'.c _⟩, h2'.ch hCh ?_ ?_⟩
        · rintro (e | ⟨e, _⟩)
          · have e1 := h2'.1; rw [e, show W.heap[lb]? = _ from h3.c] at e1; cases e1
          · omega
        · rintro (e | ⟨e, _⟩)
          · have e1 := h2'.2; rw [e, show W.heap[lb]? = _ from h3.c] at e1; cases e1; cases hR0
          · omega
      have HO : Hid _ := hout
      clear hout h1 h2' h3
      gi_wp2
      refine ⟨by simp, .inl ⟨_, _, rfl, takes hD3, ?_⟩⟩
      refine ⟨by simp, .inr ⟨(fun h => by cases h), _, _, 70, #[.pointer (some ⟨b3, 0, none⟩)], rfl, ?_, (fun _ _ => trivial), ?_⟩⟩
      · simp [invoke, go_sem]
      · refine hba.mono ?_
        rintro e u' w' ⟨rfl, ⟨v, rfl⟩, rfl⟩
        exact ⟨_, results_none rfl _ _ _, ⟨_, rfl⟩, .inl HO.out⟩
    case stop =>
      rintro cc xs W ⟨rfl, c0, pre0, h1, h2', h3⟩ hD3
      have hput : W.grownBy (W.putObj w3.heap.size (.deferred none)) (some w3.heap.size) := grownBy_putObj' W _ _
      have hrow : ∀ r : Nat, some w3.heap.size = some r → ∃ o : Obj, W.heap[r]? = some o ∧ o.isCells = false := fun r e => by cases e; exact ⟨_, hD3, rfl⟩
      have h3' := h3.kept hput hrow
      have hba := back_any h3'.b h3'.c hc 8
      have hout : (∃ s cc pre A, Ix s cc pre A ∧ Back W1.heap.size c s.1 A ((W.putObj w3.heap.size (.deferred none)).setCell ⟨lb, 0, none⟩ (.int .i64 (c : Int))) ∧ Two D (R1 cc) ((W.putObj w3.heap.size (.deferred none)).setCell ⟨lb, 0, none⟩ (.int .i64 (c : Int)))) := by
        have hCh : Ch (fun k => k = lb ∨ (W1.heap.size ≤ k ∧ ∃ o, W.heap[k]? = some o ∧ o.isCells = false)) W ((W.putObj w3.heap.size (.deferred none)).setCell ⟨lb, 0, none⟩ (.int .i64 (c : Int))) :=
          (Ch.of_grown hput (fun k e _ => by cases e; exact .inr ⟨hsz3, _, hD3, rfl⟩)).setCell ⟨lb, 0, none⟩ _ (fun _ => .inl rfl)
        refine ⟨(lb, w3.heap.size), c0, pre0, W, h1, ⟨hCh, one0 h3'.c _⟩, h2'.ch hCh ?_ ?_⟩
        · rintro (e | ⟨e, _⟩)
          · have e1 := h2'.1; rw [e, show W.heap[lb]? = _ from h3.c] at e1; cases e1
          · omega
        · rintro (e | ⟨e, _⟩)
          · have e1 := h2'.2
            rw [e, show W.heap[lb]? = _ from h3.c] at e1
            have e2 := hR1 c0
            injection e1 with e1
            rw [← e1] at e2
            cases e2
          · omega
      have HO : Hid _ := hout
      clear hout h1 h2' h3
      gi_wp2
      refine ⟨by simp, .inl ⟨_, _, rfl, takes hD3, ?_⟩⟩
      refine ⟨by simp, .inr ⟨(fun h => by cases h), _, _, 70, #[.pointer (some ⟨b3, 0, none⟩)], rfl, ?_, (fun _ _ => trivial), ?_⟩⟩
      · simp [invoke, go_sem]
      · refine hba.mono ?_
        rintro e u' w' ⟨rfl, ⟨v, rfl⟩, rfl⟩
        exact ⟨_, results_none rfl _ _ _, ⟨_, rfl⟩, .inr HO.out⟩
end Go.Proofs.Ytkohcdefhaokiaa

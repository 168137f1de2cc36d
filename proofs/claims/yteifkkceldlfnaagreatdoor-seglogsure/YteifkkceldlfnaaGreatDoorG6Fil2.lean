/-
  Package seglog's fill.
-/
import Derived.Test.YteifkkceldlfnaaGreatDoorG6Fil
import Derived.BigRegionIn
namespace Go.Proofs.YteifkkceldlfnaaGreatDoor
open Go.RowKit Go.Shelf Go.Sort
open Go.Lib hiding intOf
attribute [local go_sem] Oper.semAt_some

/-- what stands in the rounds: fs: the frames so far -/
structure Fi (w w7 : World) (B : Nat) (pre : ByteArray) (first g s : Nat) (fs : List Fr) (W : World) : Prop where
  ex : ∃ recs rv, filS first fs = some recs ∧ Sw W B pre ⟨⟨first, recs, 0⟩, g, rv⟩ ∧ W.ownsRow s 9 1 rv recs.length (strCs recs)
  b2 : Bx W w.heap.size (.pointer (some ⟨g, 0, none⟩)) 83
  b4 : Bx W (w.heap.size + 1) (.bool false) 4
  ch : Ch (fun k => k = g ∨ w7.heap.size ≤ k) w7 W
  sl : w7.heap.size + 2 ≤ s ∧ s ≤ W.heap.size
section
variable {w w7 W W' : World} {B g s first : Nat} {pre : ByteArray} {fs : List Fr}
theorem Fi.sb (h : Fi w w7 B pre first g s fs W) (hg : g < w.heap.size) (hw : w.heap.size + 2 ≤ w7.heap.size) (hB : B ≤ w.heap.size) (hs : Sb w7.heap.size s W W') : Fi w w7 B pre first g s fs W' := by
  obtain ⟨recs, rv, h1, h2, h3⟩ := h.ex
  have hz := hs.size
  have r := hs.row h3 (Nat.le_refl _)
  refine ⟨⟨recs, rv, h1, ⟨Ch.obj hs h2.hd (fun e => by have := e.1; simp only at this; omega), row_low r (by have := h.sl; omega), h2.low⟩, r⟩, hs.bx h.b2 (.inl (by omega)), hs.bx h.b4 (.inl (by omega)), h.ch.joinG hs (fun k _ hk => .inr hk.1), ⟨h.sl.1, by have := h.sl; omega⟩⟩
theorem Fi.below (h : Fi w w7 B pre first g s fs W) (hg : g < w.heap.size) (hw : w.heap.size + 2 ≤ w7.heap.size) (hB : B ≤ w.heap.size) (hb : Below W.heap.size W W') : Fi w w7 B pre first g s fs W' := h.sb hg hw hB (Sb.of_below hb)
end
/-- .. in a range's round: an operation that is no defer is carried out as everywhere -/
theorem opIn_round6 {F : Fence} {n l : Nat} {P : Program} {o : Oper} {a : Act} {w : World} {K : Act → World → Prop} {Q : Exit → Act → World → Prop} (h : ∀ c, o.op ≠ .defer c) (hh : o.wpIn F n P a w K Q) : o.wpIn (F.inRound l) n P a w K Q := by
  unfold Oper.wpIn at *
  rw [Oper.semAt_plain _ _ _ h] at *
  exact hh
def noDefer6 (o : Oper) : Bool := match o.op with | .defer _ => false | _ => true
theorem noDefer6_ne {o : Oper} (h : noDefer6 o = true) : ∀ c, o.op ≠ .defer c := by
  intro c e
  unfold noDefer6 at h
  rw [e] at h
  cases h
theorem anyIn_round6 {F : Fence} {n l : Nat} {P : Program} {md : Region.Mode} {ops : Array Oper} {Q : Exit → Act → World → Prop} (hd : ops.toList.all noDefer6 = true) : ∀ (fuel : Nat) (listed : Array Bool) (a : Act) (w : World), wpAnyIn F n P md ops Q fuel listed a w → wpAnyIn (F.inRound l) n P md ops Q fuel listed a w
  | 0, _, _, _, h => h
  | fuel + 1, listed, a, w, h => by
    refine ⟨h.1, fun i hi => ?_⟩
    have h2 := wpOpIn_mono (fun a w => anyIn_round6 (l := l) hd fuel _ a w) (h.2 i hi)
    unfold wpOpIn at h2 ⊢
    cases ho : ops[i]? with
    | none => rw [ho] at h2; exact h2
    | some o =>
      rw [ho] at h2
      simp only at h2 ⊢
      by_cases hw : Region.wanted o (yielded ops a.tmps) = true
      · rw [if_pos hw] at h2 ⊢
        exact opIn_round6 (noDefer6_ne (List.all_eq_true.1 hd o (by rw [Array.mem_toList_iff]; exact Array.mem_of_getElem? ho))) h2
      · rw [if_neg hw] at h2 ⊢
        exact h2
/-- an append whose run is known, at a step of such a region -/
theorem step_append_in {F : Fence} {n : Nat} {w : World} {ops : Array Oper} {o : Oper} {a : Act} {K : Act → World → Prop} {Q : Exit → Act → World → Prop} {E : Prop} (hgd : o.guard = none) (s x : Operand) (t u : TypeId)
    (ho : o.op = .call { callee := .builtin .append, args := #[s, x], argTypes := #[t, u] }) (v y v' : Value) (w' : World) (hs : a.eval s = v) (hx : a.eval x = y)
    (hr : (Builtin.append_ #[t, u] o.type #[v, y]).run Tryz.prog w = .ok v' w') (h : K (a.put o.dst v') w') :
    if Region.wanted o (yielded ops a.tmps) = true then Oper.wpIn F n Tryz.prog o a w K Q else E := by
  have hw : Region.wanted o (yielded ops a.tmps) = true := by simp [Region.wanted, hgd]
  rw [if_pos hw]
  unfold Oper.wpIn
  refine ⟨by simp [Oper.about, ho, resolve, Target.leads, Sem.run_pure], ?_⟩
  rw [Oper.semAt_plain F _ _ (by rw [ho]; intro c hc'; cases hc')]
  simp [execOp, ho, resolve, invoke, builtin, hs, hx, hr, Result.andThen]
  exact h
theorem tex_short (most : Int) (l : List UInt8) : (tex most l).1.length ≤ l.length := by
  have h1 := cnt_le most l
  unfold tex
  split
  · simp
  · split
    · simp
    · simp only [List.length_take]
      omega
theorem tak_short (l : List UInt8) : (tak l).2.1.length ≤ l.length := by
  have h := tex_short 65536 (l.drop 5)
  rw [List.length_drop] at h
  unfold tak
  split
  · simp
  · obtain ⟨s, rest, e, ht⟩ : ∃ s rest e, tex 65536 (l.drop 5) = (s, rest, e) := ⟨_, _, _, rfl⟩
    rw [ht] at h ⊢
    simp only at h ⊢
    split
    · simp
    · split
      · simp only; omega
      · simp
theorem tkB_len {kd : UInt8} {l : List UInt8} {p : Nat} {rs : List (List UInt8)} (h : tkB kd l = some (p, rs)) : rs.length ≤ l.length := by
  unfold tkB at h
  simp only at h
  split at h
  · simp only [Option.some.injEq, Prod.mk.injEq] at h
    have h1 := rdU_le (l := l) (e := 0) (v := (rdU l 0).1) (l2 := (rdU l 0).2.1) (e2 := (rdU l 0).2.2) (show _ = _ from rfl)
    have h2 := rdL_cnt (many := 256) (most := 4096) (l := (rdU l 0).2.1) (e := (rdU l 0).2.2) (res := (rdL 256 4096 (rdU l 0).2.1 (rdU l 0).2.2).1) (l2 := (rdL 256 4096 (rdU l 0).2.1 (rdU l 0).2.2).2.1) (e2 := (rdL 256 4096 (rdU l 0).2.1 (rdU l 0).2.2).2.2) (show _ = _ from rfl)
    rw [h.2] at h2
    omega
  · cases h
theorem tkB_ne {kd : UInt8} {l : List UInt8} {p : Nat} {rs : List (List UInt8)} (h : tkB kd l = some (p, rs)) : rs ≠ [] := by
  unfold tkB at h
  simp only at h
  split at h
  · rename_i hc
    simp only [Option.some.injEq, Prod.mk.injEq] at h
    have h1 := (isB_iff.1 hc.2.2).1.1
    rw [h.2] at h1
    rintro rfl
    simp at h1
  · cases h
theorem frs_load : ∀ (f : Nat) (l : List UInt8) (x : Fr), x ∈ frs f l → x.2.1.length ≤ l.length
  | 0, _, _, h => by cases h
  | f + 1, l, x, h => by
    rw [frs] at h
    split at h
    · rcases List.mem_cons.1 h with rfl | h
      · exact tak_short l
      · have := frs_load f _ x h
        rw [List.length_drop] at this
        omega
    · cases h
theorem Fi.fin {w w7 w8 : World} {B g s first : Nat} {pre : ByteArray} {fs : List Fr} {recs : List (List UInt8)} {rv : Value} (h : Fi w w7 B pre first g s fs w8) (hgl : g < w.heap.size) (hw7 : w.heap.size + 2 ≤ w7.heap.size) (hD : w8.heap[w7.heap.size]? = some (.deferred (some []))) (y2 : Sw w8 B pre ⟨⟨first, recs, 0⟩, g, rv⟩) (y3 : w8.ownsRow s 9 1 rv recs.length (strCs recs)) (gd : Nat) :
    Bx (w8.setCell ⟨g, 2, none⟩ (.int .i64 (gd : Int))) (w.heap.size + 1) (.bool false) 4 ∧ ((w8.setCell ⟨g, 2, none⟩ (.int .i64 (gd : Int))).setCell ⟨w.heap.size + 1, 0, none⟩ (.bool true)).heap[w7.heap.size]? = some (.deferred (some [])) ∧
    Bx (((w8.setCell ⟨g, 2, none⟩ (.int .i64 (gd : Int))).setCell ⟨w.heap.size + 1, 0, none⟩ (.bool true)).putObj w7.heap.size (.deferred none)) (w.heap.size + 1) (.bool true) 4 ∧
    Sw (((w8.setCell ⟨g, 2, none⟩ (.int .i64 (gd : Int))).setCell ⟨w.heap.size + 1, 0, none⟩ (.bool true)).putObj w7.heap.size (.deferred none)) B pre ⟨⟨first, recs, gd⟩, g, rv⟩ ∧ (∀ x, rv.ownBlock = some x → w.heap.size ≤ x) ∧
    Ch (fun k => k = g ∨ w.heap.size ≤ k) w7 (((w8.setCell ⟨g, 2, none⟩ (.int .i64 (gd : Int))).setCell ⟨w.heap.size + 1, 0, none⟩ (.bool true)).putObj w7.heap.size (.deferred none)) := by
  have hsl := h.sl
  have c1 : Ch (fun k => k = g) w8 (w8.setCell ⟨g, 2, none⟩ (.int .i64 (gd : Int))) := (Ch.refl _ w8).setCell _ _ (fun _ => rfl)
  have c2 : Ch (fun k => k = w.heap.size + 1) (w8.setCell ⟨g, 2, none⟩ (.int .i64 (gd : Int))) ((w8.setCell ⟨g, 2, none⟩ (.int .i64 (gd : Int))).setCell ⟨w.heap.size + 1, 0, none⟩ (.bool true)) := (Ch.refl _ _).setCell _ _ (fun _ => rfl)
  have c3 : Ch (fun k => k = w7.heap.size) ((w8.setCell ⟨g, 2, none⟩ (.int .i64 (gd : Int))).setCell ⟨w.heap.size + 1, 0, none⟩ (.bool true)) (((w8.setCell ⟨g, 2, none⟩ (.int .i64 (gd : Int))).setCell ⟨w.heap.size + 1, 0, none⟩ (.bool true)).putObj w7.heap.size (.deferred none)) := Ch.of_grown (grownBy_putObj' _ _ _) (fun k e _ => by cases e; rfl)
  have b1 := h.b4.ch c1 (by omega)
  have hrb : ∀ x, rv.ownBlock = some x → s ≤ x := fun x hx => (row_obj y3 hx).1
  have hd1 := heap_setCell_same w8 g 2 _ _ (.int .i64 (gd : Int)) y2.hd
  refine ⟨b1, c2.obj (c1.obj hD (by omega)) (by omega), (one0 b1 (.bool true)).ch c3 (by omega), ⟨c3.obj (c2.obj hd1 (by simp only; omega)) (by simp only; omega), ?_, y2.low⟩, fun x hx => by have := hrb x hx; omega, ?_⟩
  · have r := c3.row (c2.row (c1.row y2.row (fun x hx e => by have := hrb x hx; omega)) (fun x hx e => by have := hrb x hx; omega)) (fun x hx e => by have := hrb x hx; omega)
    exact r
  · exact (((h.ch.mono (fun k _ e => e.imp id (fun e => by omega))).joinG c1 (fun k _ e => .inl e)).joinG c2 (fun k _ e => .inr (by omega))).joinG c3 (fun k _ e => .inr (by omega))
/-- fill's answer -/
def FilR (w : World) (B : Nat) (pre : ByteArray) (first g : Nat) (l : List UInt8) (e : Ending) (w' : World) : Prop :=
  (∃ recs rv, filS first (fra l) = some recs ∧ e = .returned (.bool true) ∧ Sw w' B pre ⟨⟨first, recs, god (fra l)⟩, g, rv⟩ ∧ ∀ x, rv.ownBlock = some x → w.heap.size ≤ x) ∨ (filS first (fra l) = none ∧ e = .returned (.bool false))

set_option maxHeartbeats 4000000 in
set_option maxRecDepth 100000 in
theorem fill_any {w : World} {B g first : Nat} {pre : ByteArray} (l : List UInt8) (hl : l.length ≤ 1048576) (h : Sw w B pre ⟨⟨first, [], 0⟩, g, .slice none 0 0⟩) (hB : B ≤ w.heap.size) (hf : first ≤ 1099511627777) :
    Calls Tryz.prog 69 #[.pointer (some ⟨g, 0, none⟩), .string (S l)] w fun e w' => FilR w B pre first g l e w' ∧ Ch (fun k => k = g) w w' := by
  have hgl : g < w.heap.size := (Array.getElem?_eq_some_iff.1 h.hd).1
  have hwk := fun w => Walk_any l (by omega) w
  have hgd := fun w => Good_any l (by omega) w
  obtain ⟨W0, hW0⟩ : ∃ W0, W0 = (w.alloc (.cells #[.pointer (some ⟨g, 0, none⟩)] 83)).alloc (.cells #[.bool false] 4) := ⟨_, rfl⟩
  have hs0 : W0.heap.size = w.heap.size + 1 + 1 := by rw [hW0]; simp
  have hB0 : Below w.heap.size w W0 := by rw [hW0]; exact ((Below.refl _ w).alloc (Nat.le_refl _) _).alloc (by simp) _
  have bk : Bx W0 w.heap.size (.pointer (some ⟨g, 0, none⟩)) 83 := by rw [hW0]; exact (Bx.new w _ _).alloc _
  have br : Bx W0 (w.heap.size + 1) (.bool false) 4 := by
    rw [hW0]
    have := Bx.new (w.alloc (.cells #[.pointer (some ⟨g, 0, none⟩)] 83)) (.bool false) 4
    rwa [World.size_alloc] at this
  have HS0 : Hid (Sw W0 B pre ⟨⟨first, [], 0⟩, g, .slice none 0 0⟩) := ⟨(hB0.block _ hgl).trans h.hd, World.ownsRow_nil _ _ _ _, h.low⟩
  have HB0 : Hid (Below w.heap.size w W0) := hB0
  clear h hB0
  refine (callsIn_wide (n := 9)).1 ?_
  refine callsIn_of_wp_marks Tryz.func69 rfl trivial ?_ rfl
  simp only [Tryz.ntmps69, List.size_toArray, List.length_cons, List.length_nil, Nat.reduceAdd, Nat.reduceSub, Array.replicate_succ, Array.replicate_zero, List.push_toArray, List.append_toArray, List.nil_append, List.cons_append]
  gi_wp2_with (refine ⟨trivial, ?_⟩; gi_at_call 101; rw [← hW0]; refine (callsIn_wide.2 (hwk _)).mono ?_; rintro e w7 ⟨rfl, hS7, hB7, hz7⟩)
  have hw7 : w.heap.size + 2 ≤ w7.heap.size := by have := hB7.size; omega
  have H7 : Hid (Below W0.heap.size W0 w7) := hB7
  have b27 := bk.below hB7 bk.lt
  have b47 := br.below hB7 br.lt
  rw [hs0] at hS7
  have HX : Hid (∀ y, y = w.heap.size + 1 + 1 → y ≠ g ∧ y < w7.heap.size) := by rintro y rfl; omega
  clear hz7 hs0 hW0 hB7 bk br
  refine range_sq2 (r1 := 5) (r2 := 6) (e1 := fun x : Fr => .int .u8 (x.1.toNat : Int)) (e2 := fun x : Fr => .string (S x.2.1)) rfl hS7
    (fun s fs W => Fi w w7 B pre first g s fs W)
    (fun s c fs W => c = .ret ∧ filS first (fra l) = none ∧ Bx W (w.heap.size + 1) (.bool false) 4 ∧ Ch (fun k => k = g ∨ w.heap.size ≤ k) w7 W)
    ?hI ?hIx ?start ?assign ?body ?done ?stop
  case hI => exact fun s fs W W' h hs => h.sb hgl hw7 hB hs
  case hIx =>
    rintro s c fs W W' ⟨h1, h2, h3, h4⟩ hs
    exact ⟨h1, h2, hs.bx h3 (.inl (by omega)), h4.joinG hs (fun k _ hk => .inr (by have := hk.1; omega))⟩
  case start =>
    intro W9 hB9 h9
    refine ⟨⟨[], .slice none 0 0, rfl, ?_, World.ownsRow_nil _ _ _ _⟩, b27.below hB9 b27.lt, b47.below hB9 b47.lt, Ch.of_below hB9, ⟨h9, Nat.le_refl _⟩⟩
    exact ⟨(hB9.block _ (show g < _ by omega)).trans ((H7.out.block _ (show g < _ by have := HB0.out.size; omega)).trans HS0.out.hd), World.ownsRow_nil _ _ _ _, HS0.out.low⟩
  case assign =>
    intro mm l' x W K hK
    gi_wp2
    exact hK
  case body =>
    rintro mm l' s fs x Wp W hI hsb hnx
    have hwl := hI.sl.2
    have hsW : s ≤ W.heap.size := by have := hI.sl; have := hsb.size; omega
    have hWz : w.heap.size + 2 ≤ W.heap.size := by have := hI.sl; have := hsb.size; omega
    have hwp : w7.heap.size + 2 ≤ Wp.heap.size := by have := hI.sl; omega
    have hI2 := hI.sb hgl hw7 hB hsb
    obtain ⟨recs, rv, h1, h2p, h3p⟩ := hI.ex
    have hsl := hI.sl
    have HRV : Hid (∀ k, rv.ownBlock = some k → s ≤ k ∧ k < Wp.heap.size) := fun k hk => by
      obtain ⟨q1, cur, q2⟩ := row_obj h3p hk
      exact ⟨q1, (Array.getElem?_eq_some_iff.1 q2).1⟩
    have h3 := hsb.row h3p (Nat.le_refl _)
    have h2 : Sw W B pre ⟨⟨first, recs, 0⟩, g, rv⟩ := ⟨Ch.obj hsb h2p.hd (fun e => by have := e.1; simp only at this; omega), row_low h3 (by omega), h2p.low⟩
    clear h2p h3p
    obtain ⟨kd, ld, sz⟩ := x
    have hld : ld.length ≤ 1048576 := by
      have hm : (kd, ld, sz) ∈ fra l := hnx.subset (by simp)
      have := frs_load _ _ _ hm
      simp only at this
      omega
    have HT := takeBatch_any kd ld hld W
    have hsn := filS_snoc (x := (kd, ld, sz)) h1
    simp only at hsn
    have HB4 : Hid (Bx W (w.heap.size + 1) (.bool false) 4) := hI2.b4
    have HK : Hid (∀ W2, Below W.heap.size W W2 → Fi w w7 B pre first g s fs W2) := fun W2 hb => hI2.below hgl hw7 hB hb
    have HBAD : Hid (filS first (fs ++ [(kd, ld, sz)]) = none → ∀ W2, Below W.heap.size W W2 → KeepsFrom w7.heap.size W (W2.setCell ⟨w.heap.size + 1, 0, none⟩ (.bool false)) ∧ Kq (fun k => k = w.heap.size + 1 + 1 ∨ (w7.heap.size + 2 ≤ k ∧ k < s) ∨ (Wp.heap.size ≤ k ∧ k < W.heap.size)) W (W2.setCell ⟨w.heap.size + 1, 0, none⟩ (.bool false)) ∧ filS first (fra l) = none ∧ Bx (W2.setCell ⟨w.heap.size + 1, 0, none⟩ (.bool false)) (w.heap.size + 1) (.bool false) 4 ∧ Ch (fun k => k = g ∨ w.heap.size ≤ k) w7 (W2.setCell ⟨w.heap.size + 1, 0, none⟩ (.bool false))) := by
      intro hn W2 hb
      have hF := HK.out W2 hb
      have hz2 := hb.size
      have c2 : Ch (fun k => k = w.heap.size + 1) W2 (W2.setCell ⟨w.heap.size + 1, 0, none⟩ (.bool false)) := (Ch.refl _ W2).setCell _ _ (fun _ => rfl)
      have c3 : Ch (fun k => k = w.heap.size + 1) W (W2.setCell ⟨w.heap.size + 1, 0, none⟩ (.bool false)) := (show Ch (fun k => k = w.heap.size + 1) W W2 from Ch.of_below hb).joinG c2 (fun k _ e => e)
      refine ⟨KeepsFrom.of_ch c3 (fun k e => by subst e; exact ⟨_, HB4.out, rfl⟩), Kq.of_ch c3 (fun k hk e => by omega), filS_none hn hnx, one0 hF.b4 _, ?_⟩
      exact (hF.ch.mono (fun k _ e => e.imp id (fun e => by omega))).joinG c2 (fun k _ e => .inr (by omega))
    simp only [List.setIfInBounds_toArray, List.set_cons_succ, List.set_cons_zero]
    clear hI hsb hI2
    cases hk : tkB kd ld with
    | none =>
      rw [hk] at HT hsn
      have HN : Hid _ := HBAD.out hsn
      clear HBAD hsn h2 h3
      gi_wp2
      refine ⟨trivial, (fun h => by cases h), ?_⟩
      refine CallsIn.mono (CallsIn.inRound _ (callsIn_wide.2 HT)) ?_
      rintro e w8 ⟨b8, he⟩
      have he' : e = .returned (.tuple #[.int .u64 0, .slice none 0 0, .bool false]) := he
      subst he'
      have HZ : Hid _ := HN.out w8 b8
      have c4 := (HK.out w8 b8).b4.cell
      have f4 := (HK.out w8 b8).b4.fro
      clear b8 he
      gi_wp2
      refine ⟨trivial, ?_⟩
      gi_wp2
      obtain ⟨z1, z2, z3, z4, z5⟩ := HZ.out
      exact ⟨z1, z2, rfl, z3, z4, z5⟩
    | some pr =>
      obtain ⟨p, rs⟩ := pr
      rw [hk] at HT hsn
      simp only at hsn
      have hmx := filS_max hf h1
      by_cases hp : p = first + recs.length
      · subst hp
        have HNX : Hid (∀ W2, Sw W2 B pre ⟨⟨first, recs, 0⟩, g, rv⟩ → Calls Tryz.prog 34 #[.pointer (some ⟨g, 0, none⟩)] W2 fun e w' => e = .returned (.int .u64 ((first + recs.length : Nat) : Int)) ∧ ∃ q, w' = W2.drewN q) := fun W2 h => next_any h (by show first + recs.length ≤ _; omega)
        have HSW : Hid (∀ W2, Below W.heap.size W W2 → Sw W2 B pre ⟨⟨first, recs, 0⟩, g, rv⟩) := fun W2 hb => ⟨(hb.block _ (show g < _ by omega)).trans h2.hd, (show Ch (fun _ => False) W W2 from Ch.of_below hb).row h2.row (fun _ _ => id), h2.low⟩
        by_cases hq : first + recs.length + rs.length ≤ 1099511627777
        · have hq' : ¬ (1099511627777 : Int) < ((first + recs.length : Nat) : Int) + (rs.length : Int) := by omega
          rw [if_pos ⟨rfl, hq⟩] at hsn
          have H3 : Hid (W.ownsRow s 9 1 rv recs.length (strCs recs)) := h3
          have HSN : Hid (filS first (fs ++ [(kd, ld, sz)]) = some (recs ++ rs)) := hsn
          have H2 : Hid (Sw W B pre ⟨⟨first, recs, 0⟩, g, rv⟩) := h2
          have hrs : rs ≠ [] := tkB_ne hk
          obtain ⟨nx, HNXE⟩ : ∃ nx, Hid (first + recs.length = nx) := ⟨_, show _ = _ from rfl⟩
          rw [HNXE.out] at HNX hq hq' HT
          have hnb : nx ≤ 1099511627777 := by omega
          clear HBAD hsn h2 h3
          gi_wp2
          refine ⟨trivial, (fun h => by cases h), ?_⟩
          refine CallsIn.mono (CallsIn.inRound _ (callsIn_wide.2 HT)) ?_
          rintro e w8 ⟨b8, he⟩
          obtain ⟨vv, he', hvr⟩ := he
          obtain ⟨va, vc, rfl, -⟩ := row_slice hvr
          subst he'
          have c2 := (HK.out w8 b8).b2.cell
          have cN := HNX.out w8 (HSW.out w8 b8)
          have B8 : Hid (Below W.heap.size W w8) := b8
          have d38 : w8.cell? ⟨g, 3, none⟩ = some rv := (HSW.out w8 b8).c3
          have HVR : Hid (w8.ownsRow W.heap.size 9 1 (.slice va rs.length vc) rs.length (strCs rs)) := hvr
          clear b8 hvr
          gi_wp2
          refine ⟨trivial, (fun h => by cases h), ?_⟩
          refine CallsIn.mono (CallsIn.inRound _ (callsIn_wide.2 cN)) ?_
          rintro e w9 ⟨rfl, q, rfl⟩
          have B9 : Below W.heap.size W (w8.drewN q) := below_drewN B8.out q
          have c2' := (HK.out _ B9).b2.cell
          have s9 := HSW.out _ B9
          have d3 : (w8.drewN q).cell? ⟨g, 3, none⟩ = some rv := s9.c3
          have BU : Below W.heap.size W (w8.drewN q).drew := B9.drew
          have hFU := HK.out _ BU
          have sU := HSW.out _ BU
          have rU := (show Ch (fun _ => False) W (w8.drewN q).drew from Ch.of_below BU).row H3.out (fun _ _ => id)
          obtain ⟨gu, rfl⟩ : ∃ gu, va = some ⟨gu, 0, none⟩ := by
            rcases HVR.out.2 with ⟨e, h0⟩ | ⟨g', cap', cur, e, -⟩
            · exact absurd (List.eq_nil_of_length_eq_zero h0) hrs
            · cases e; exact ⟨g', rfl⟩
          have hcu : ∀ j x, (strCs rs)[j]? = some x → (w8.drewN q).drew.cell? ((⟨gu, 0, none⟩ : Addr).add j) = some x := fun j x hj => by
            rw [Addr.add_lit, Nat.zero_add]
            exact row_cell HVR.out hj
          obtain ⟨a1, k1, w9, hrun, z1, z2, zc, zs, zr, zch⟩ := sU.gather (rs := rs) (c := vc) rU (by omega) (by have := BU.size; omega) hcu (by have := HNXE.out; show recs.length + rs.length ≤ _; omega)
          simp only at hrun zs zr z1 zc zch
          have c2w : w9.cell? ⟨w.heap.size, 0, none⟩ = some (.pointer (some ⟨g, 0, none⟩)) := (hFU.b2.ch zc (fun e => by have := HRV.out _ e; omega)).cell
          have cAll : Ch (fun k => k = g ∨ rv.ownBlock = some k) W (w9.setCell ⟨g, 3, none⟩ (.slice a1 (recs.length + rs.length) k1)) := (show Ch (fun k => k = g ∨ rv.ownBlock = some k) W (w8.drewN q).drew from Ch.of_below BU).joinG zch (fun k _ e => e)
          have HFIN : Hid (KeepsFrom w7.heap.size W (w9.setCell ⟨g, 3, none⟩ (.slice a1 (recs.length + rs.length) k1)) ∧ Kq (fun k => k = w.heap.size + 1 + 1 ∨ (w7.heap.size + 2 ≤ k ∧ k < s) ∨ (Wp.heap.size ≤ k ∧ k < W.heap.size)) W (w9.setCell ⟨g, 3, none⟩ (.slice a1 (recs.length + rs.length) k1)) ∧ Fi w w7 B pre first g s (fs ++ [(kd, ld, sz)]) (w9.setCell ⟨g, 3, none⟩ (.slice a1 (recs.length + rs.length) k1))) := by
            refine ⟨KeepsFrom.of_ch cAll (fun k e => ?_), Kq.of_ch cAll (fun k hk e => ?_), ⟨⟨recs ++ rs, _, HSN.out, zs, zr⟩, hFU.b2.ch zch (fun e => ?_), hFU.b4.ch zch (fun e => ?_), hFU.ch.joinG zch (fun k _ e => ?_), ⟨hsl.1, by have := cAll.size; omega⟩⟩⟩
            · rcases e with rfl | e
              · exact ⟨_, H2.out.hd, rfl⟩
              · obtain ⟨_, cur, q2⟩ := row_obj H3.out e
                exact ⟨_, q2, rfl⟩
            · rcases e with e | e
              · omega
              · have := HRV.out _ e; omega
            · rcases e with e | e
              · omega
              · have := HRV.out _ e; omega
            · rcases e with e | e
              · omega
              · have := HRV.out _ e; omega
            · rcases e with e | e
              · exact .inl e
              · exact .inr (by have := HRV.out _ e; omega)
          clear B9 cN s9 BU hFU sU rU hcu zc zs zr zch cAll
          gi_wp2
          refine wpIn_region_any (by kernel_rfl) (anyIn_round6 (by kernel_rfl) _ _ _ _ ?_)
          change wpAnyIn _ _ _ _ _ _ _ _ _ (World.drew _)
          refine wpAnyIn_take (i := 5) (v := .slice (some ⟨gu, 0, none⟩) rs.length vc) rfl rfl (by kernel_rfl) (by kernel_rfl) (by kernel_rfl) (fun _ _ _ h => h) ⟨Or.inl ⟨by rfl, ?_⟩, fun _ => rfl⟩ ?_
          · intro w; go_simp
          refine wpAnyIn_ready (rs := [0, 1]) (by kernel_rfl) (by simp) ?_
          refine AllReadyIn.cons rfl (fun K hK => ?_) ?_
          · go_simp
            refine hK _ _ ?_
            clear hK K
            refine wpAnyIn_ready (rs := [1]) (by kernel_rfl) (by simp) ?_
            refine AllReadyIn.cons rfl (fun K hK => ?_) ?_
            · go_simp
              refine hK _ _ ?_
              clear hK K
              refine wpAnyIn_take (i := 2) (v := .pointer (some ⟨g, 0, none⟩)) rfl rfl (by kernel_rfl) (by kernel_rfl) (by kernel_rfl) (fun _ _ _ h => h) ⟨Or.inl ⟨by rfl, ?_⟩, fun _ => rfl⟩ ?_
              · intro w; go_simp
              refine wpAnyIn_take (i := 3) (v := .pointer (some ⟨g, 3, none⟩)) rfl rfl (by kernel_rfl) (by kernel_rfl) (by kernel_rfl) (fun _ _ _ h => h) ⟨Or.inl ⟨by rfl, ?_⟩, fun _ => rfl⟩ ?_
              · intro w; go_simp
              refine wpAnyIn_ready (rs := [4]) (by kernel_rfl) (by simp) ?_
              refine AllReadyIn.cons rfl (fun K hK => ?_) ?_
              · go_simp
                refine hK _ _ ?_
                clear hK K
                refine wpAnyIn_ready (rs := [6]) (by kernel_rfl) (by simp) ?_
                refine AllReadyIn.cons rfl (fun K hK => ?_) ?_
                · refine step_append_in (by rfl) _ _ _ _ (by rfl) _ _ _ _ (by rfl) (by rfl) hrun ?_
                  refine hK _ _ ?_
                  clear hK K
                  refine wpAnyIn_take (i := 7) (v := .pointer (some ⟨g, 0, none⟩)) rfl rfl (by kernel_rfl) (by kernel_rfl) (by kernel_rfl) (fun _ _ _ h => h) ⟨Or.inl ⟨by rfl, ?_⟩, fun _ => rfl⟩ ?_
                  · intro w; go_simp
                  refine wpAnyIn_take (i := 8) (v := .pointer (some ⟨g, 3, none⟩)) rfl rfl (by kernel_rfl) (by kernel_rfl) (by kernel_rfl) (fun _ _ _ h => h) ⟨Or.inl ⟨by rfl, ?_⟩, fun _ => rfl⟩ ?_
                  · intro w; go_simp
                  refine wpAnyIn_ready (rs := [9]) (by kernel_rfl) (by simp) ?_
                  refine AllReadyIn.cons rfl (fun K hK => ?_) ?_
                  · go_simp
                    refine hK _ _ ?_
                    clear hK K
                    refine wpAnyIn_done (by kernel_rfl) ?_ _
                    exact HFIN.out
                  exact AllReadyIn.nil
                exact AllReadyIn.nil
              exact AllReadyIn.nil
            exact AllReadyIn.nil
          refine AllReadyIn.cons rfl (fun K hK => ?_) ?_
          · go_simp
            refine hK _ _ ?_
            clear hK K
            refine wpAnyIn_take (i := 2) (v := .pointer (some ⟨g, 0, none⟩)) rfl rfl (by kernel_rfl) (by kernel_rfl) (by kernel_rfl) (fun _ _ _ h => h) ⟨Or.inl ⟨by rfl, ?_⟩, fun _ => rfl⟩ ?_
            · intro w; go_simp
            refine wpAnyIn_take (i := 3) (v := .pointer (some ⟨g, 3, none⟩)) rfl rfl (by kernel_rfl) (by kernel_rfl) (by kernel_rfl) (fun _ _ _ h => h) ⟨Or.inl ⟨by rfl, ?_⟩, fun _ => rfl⟩ ?_
            · intro w; go_simp
            refine wpAnyIn_ready (rs := [0, 4]) (by kernel_rfl) (by simp) ?_
            refine AllReadyIn.cons rfl (fun K hK => ?_) ?_
            · go_simp
              refine hK _ _ ?_
              clear hK K
              refine wpAnyIn_ready (rs := [4]) (by kernel_rfl) (by simp) ?_
              refine AllReadyIn.cons rfl (fun K hK => ?_) ?_
              · go_simp
                refine hK _ _ ?_
                clear hK K
                refine wpAnyIn_ready (rs := [6]) (by kernel_rfl) (by simp) ?_
                refine AllReadyIn.cons rfl (fun K hK => ?_) ?_
                · refine step_append_in (by rfl) _ _ _ _ (by rfl) _ _ _ _ (by rfl) (by rfl) hrun ?_
                  refine hK _ _ ?_
                  clear hK K
                  refine wpAnyIn_take (i := 7) (v := .pointer (some ⟨g, 0, none⟩)) rfl rfl (by kernel_rfl) (by kernel_rfl) (by kernel_rfl) (fun _ _ _ h => h) ⟨Or.inl ⟨by rfl, ?_⟩, fun _ => rfl⟩ ?_
                  · intro w; go_simp
                  refine wpAnyIn_take (i := 8) (v := .pointer (some ⟨g, 3, none⟩)) rfl rfl (by kernel_rfl) (by kernel_rfl) (by kernel_rfl) (fun _ _ _ h => h) ⟨Or.inl ⟨by rfl, ?_⟩, fun _ => rfl⟩ ?_
                  · intro w; go_simp
                  refine wpAnyIn_ready (rs := [9]) (by kernel_rfl) (by simp) ?_
                  refine AllReadyIn.cons rfl (fun K hK => ?_) ?_
                  · go_simp
                    refine hK _ _ ?_
                    clear hK K
                    refine wpAnyIn_done (by kernel_rfl) ?_ _
                    exact HFIN.out
                  exact AllReadyIn.nil
                exact AllReadyIn.nil
              exact AllReadyIn.nil
            refine AllReadyIn.cons rfl (fun K hK => ?_) ?_
            · go_simp
              refine hK _ _ ?_
              clear hK K
              refine wpAnyIn_ready (rs := [0, 6]) (by kernel_rfl) (by simp) ?_
              refine AllReadyIn.cons rfl (fun K hK => ?_) ?_
              · go_simp
                refine hK _ _ ?_
                clear hK K
                refine wpAnyIn_ready (rs := [6]) (by kernel_rfl) (by simp) ?_
                refine AllReadyIn.cons rfl (fun K hK => ?_) ?_
                · refine step_append_in (by rfl) _ _ _ _ (by rfl) _ _ _ _ (by rfl) (by rfl) hrun ?_
                  refine hK _ _ ?_
                  clear hK K
                  refine wpAnyIn_take (i := 7) (v := .pointer (some ⟨g, 0, none⟩)) rfl rfl (by kernel_rfl) (by kernel_rfl) (by kernel_rfl) (fun _ _ _ h => h) ⟨Or.inl ⟨by rfl, ?_⟩, fun _ => rfl⟩ ?_
                  · intro w; go_simp
                  refine wpAnyIn_take (i := 8) (v := .pointer (some ⟨g, 3, none⟩)) rfl rfl (by kernel_rfl) (by kernel_rfl) (by kernel_rfl) (fun _ _ _ h => h) ⟨Or.inl ⟨by rfl, ?_⟩, fun _ => rfl⟩ ?_
                  · intro w; go_simp
                  refine wpAnyIn_ready (rs := [9]) (by kernel_rfl) (by simp) ?_
                  refine AllReadyIn.cons rfl (fun K hK => ?_) ?_
                  · go_simp
                    refine hK _ _ ?_
                    clear hK K
                    refine wpAnyIn_done (by kernel_rfl) ?_ _
                    exact HFIN.out
                  exact AllReadyIn.nil
                exact AllReadyIn.nil
              refine AllReadyIn.cons rfl (fun K hK => ?_) ?_
              · refine step_append_in (by rfl) _ _ _ _ (by rfl) _ _ _ _ (by rfl) (by rfl) hrun ?_
                refine hK _ _ ?_
                clear hK K
                refine wpAnyIn_ready (rs := [0]) (by kernel_rfl) (by simp) ?_
                refine AllReadyIn.cons rfl (fun K hK => ?_) ?_
                · go_simp
                  refine hK _ _ ?_
                  clear hK K
                  refine wpAnyIn_take (i := 7) (v := .pointer (some ⟨g, 0, none⟩)) rfl rfl (by kernel_rfl) (by kernel_rfl) (by kernel_rfl) (fun _ _ _ h => h) ⟨Or.inl ⟨by rfl, ?_⟩, fun _ => rfl⟩ ?_
                  · intro w; go_simp
                  refine wpAnyIn_take (i := 8) (v := .pointer (some ⟨g, 3, none⟩)) rfl rfl (by kernel_rfl) (by kernel_rfl) (by kernel_rfl) (fun _ _ _ h => h) ⟨Or.inl ⟨by rfl, ?_⟩, fun _ => rfl⟩ ?_
                  · intro w; go_simp
                  refine wpAnyIn_ready (rs := [9]) (by kernel_rfl) (by simp) ?_
                  refine AllReadyIn.cons rfl (fun K hK => ?_) ?_
                  · go_simp
                    refine hK _ _ ?_
                    clear hK K
                    refine wpAnyIn_done (by kernel_rfl) ?_ _
                    exact HFIN.out
                  exact AllReadyIn.nil
                exact AllReadyIn.nil
              exact AllReadyIn.nil
            exact AllReadyIn.nil
          exact AllReadyIn.nil
        · have hq' : (1099511627777 : Int) < ((first + recs.length : Nat) : Int) + (rs.length : Int) := by omega
          rw [if_neg (fun h => hq h.2)] at hsn
          have HN : Hid _ := HBAD.out hsn
          obtain ⟨nx, HNXE⟩ : ∃ nx, Hid (first + recs.length = nx) := ⟨_, show _ = _ from rfl⟩
          rw [HNXE.out] at HNX hq hq' HT
          have hnb : nx ≤ 1099511627777 := by have := HNXE.out; omega
          have hrb : rs.length ≤ 1048576 := by
            have := tkB_len hk
            omega
          clear HBAD hsn h2 h3
          gi_wp2
          refine ⟨trivial, (fun h => by cases h), ?_⟩
          refine CallsIn.mono (CallsIn.inRound _ (callsIn_wide.2 HT)) ?_
          rintro e w8 ⟨b8, he⟩
          obtain ⟨vv, he', hvr⟩ := he
          obtain ⟨va, vc, rfl, -⟩ := row_slice hvr
          subst he'
          have c2 := (HK.out w8 b8).b2.cell
          have cN := HNX.out w8 (HSW.out w8 b8)
          have B8 : Hid (Below W.heap.size W w8) := b8
          clear b8 hvr
          gi_wp2
          refine ⟨trivial, (fun h => by cases h), ?_⟩
          refine CallsIn.mono (CallsIn.inRound _ (callsIn_wide.2 cN)) ?_
          rintro e w9 ⟨rfl, q, rfl⟩
          have B9 : Below W.heap.size W (w8.drewN q) := below_drewN B8.out q
          have HZ : Hid _ := HN.out _ B9
          have c4 := (HK.out _ B9).b4.cell
          have f4 := (HK.out _ B9).b4.fro
          clear B9 cN
          gi_wp2
          obtain ⟨z1, z2, z3, z4, z5⟩ := HZ.out
          exact ⟨z1, z2, rfl, z3, z4, z5⟩
      · rw [if_neg (fun h => hp h.1)] at hsn
        have HN : Hid _ := HBAD.out hsn
        have hne : ((p : Int) != ((first + recs.length : Nat) : Int)) = true := by rw [bne_iff_ne]; omega
        have HNX : Hid (∀ W2, Sw W2 B pre ⟨⟨first, recs, 0⟩, g, rv⟩ → Calls Tryz.prog 34 #[.pointer (some ⟨g, 0, none⟩)] W2 fun e w' => e = .returned (.int .u64 ((first + recs.length : Nat) : Int)) ∧ ∃ q, w' = W2.drewN q) := fun W2 h => next_any h (by show first + recs.length ≤ _; omega)
        have HSW : Hid (∀ W2, Below W.heap.size W W2 → Sw W2 B pre ⟨⟨first, recs, 0⟩, g, rv⟩) := fun W2 hb => ⟨(hb.block _ (show g < _ by omega)).trans h2.hd, (show Ch (fun _ => False) W W2 from Ch.of_below hb).row h2.row (fun _ _ => id), h2.low⟩
        generalize first + recs.length = nx at *
        clear HBAD hsn h2 h3
        gi_wp2
        refine ⟨trivial, (fun h => by cases h), ?_⟩
        refine CallsIn.mono (CallsIn.inRound _ (callsIn_wide.2 HT)) ?_
        rintro e w8 ⟨b8, he⟩
        obtain ⟨vv, he', hvr⟩ := he
        obtain ⟨va, vc, rfl, -⟩ := row_slice hvr
        subst he'
        have c2 := (HK.out w8 b8).b2.cell
        have cN := HNX.out w8 (HSW.out w8 b8)
        have B8 : Hid (Below W.heap.size W w8) := b8
        clear b8 hvr
        gi_wp2
        refine ⟨trivial, (fun h => by cases h), ?_⟩
        refine CallsIn.mono (CallsIn.inRound _ (callsIn_wide.2 cN)) ?_
        rintro e w9 ⟨rfl, q, rfl⟩
        have B9 : Below W.heap.size W (w8.drewN q) := below_drewN B8.out q
        have HZ : Hid _ := HN.out _ B9
        have c4 := (HK.out _ B9).b4.cell
        have f4 := (HK.out _ B9).b4.fro
        clear B9 cN
        gi_wp2
        obtain ⟨z1, z2, z3, z4, z5⟩ := HZ.out
        exact ⟨z1, z2, rfl, z3, z4, z5⟩
  case done =>
    rintro s W hI hD
    have c2 := hI.b2.cell
    have hzW := hI.ch.size
    have hDl := (Array.getElem?_eq_some_iff.1 hD).1
    have HF : Hid (∀ w8, Below W.heap.size W w8 → Fi w w7 B pre first g s (fra l) w8 ∧ w8.heap[w7.heap.size]? = some (.deferred (some []))) := fun w8 hb => ⟨hI.below hgl hw7 hB hb, (hb.block _ hDl).trans hD⟩
    have HG := fun W => hgd W
    have hgd2 := god_le _ l (Nat.le_refl _)
    obtain ⟨gd, HGD⟩ : ∃ gd, Hid (god (fra l) = gd) := ⟨_, show _ = _ from rfl⟩
    rw [HGD.out] at HG hgd2
    clear hI hD
    gi_wp2
    refine wpIn_wide.2 (Code.wp_mono NoPanic.imp ?_)
    go_region_law (go_simp; go_at_call 103; refine (HG _).mono ?_; rintro e w8 ⟨rfl, b8⟩; dsimp only; (have B8 : Below W.heap.size W w8 := (below_drewN (Below.refl _ W) 1).trans b8); obtain ⟨hF8, hD8⟩ := HF.out w8 B8; have c28 := hF8.b2.cell; obtain ⟨recs, rv, y1, y2, y3⟩ := hF8.ex; have d2 := y2.c2; have f2 := y2.fro 2; have H8 : Hid _ := And.intro hF8 (And.intro hD8 (And.intro y1 (And.intro y2 y3))); have HZ8 : Hid _ := b8.size; clear b8 B8 hF8 hD8 y1 y2 y3)
    all_goals refine NoPanic.normal ?_
    all_goals
      obtain ⟨hF8, hD8, y1, y2, y3⟩ := H8.out
      obtain ⟨x1, x2, x3, x4, x5, x6⟩ := hF8.fin hgl hw7 hD8 y2 y3 gd
      have cc4 := x1.cell
      have ff4 := x1.fro
      have cx := x3.cell
      have hb0 := HB0.out.size
      have c0 : Ch (fun k => k = g) w w7 := (show Ch (fun k => k = g) w W0 from Ch.of_below HB0.out).joinG (show Ch (fun _ => False) W0 w7 from Ch.of_below H7.out) (fun k _ e => e.elim)
      have c1 := c0.joinG x6 (fun k hk e => e.elim id (fun e => by omega))
      have HX2 : Hid _ := x2
      have HXE : Hid _ := And.intro y1 (And.intro x4 (And.intro x5 c1))
      clear hF8 hD8 y1 y2 y3 x1 x2 x3 x4 x5 x6 c0 c1
      gi_wp2
      refine ⟨by simp, .inl ⟨_, _, rfl, takes HX2.out, ?_⟩⟩
      obtain ⟨y1, x4, x5, c1⟩ := HXE.out
      refine ⟨.bool true, ?res, .inl ⟨_, _, y1, rfl, by rw [HGD.out]; exact x4, x5⟩, c1⟩
      case res => simp [results, Tryz.results69, go_sem, cx]
  case stop =>
    rintro s c fs W ⟨rfl, h2, h3, h4⟩ hD
    have HE : Hid (filS first (fra l) = none) := h2
    have hz4 := h4.size
    have hb0 := HB0.out.size
    have c0 : Ch (fun k => k = g) w w7 := (show Ch (fun k => k = g) w W0 from Ch.of_below HB0.out).joinG (show Ch (fun _ => False) W0 w7 from Ch.of_below H7.out) (fun k _ e => e.elim)
    have c1 : Ch (fun k => k = g) w W := c0.joinG h4 (fun k hk e => e.elim id (fun e => by omega))
    have c2 : Ch (fun k => k = g) w (W.putObj w7.heap.size (.deferred none)) := c1.joinG (show Ch (fun k => k = w7.heap.size) W (W.putObj w7.heap.size (.deferred none)) from Ch.of_grown (grownBy_putObj' W _ _) (fun k e _ => by cases e; rfl)) (fun k hk e => by omega)
    have hx4 : Bx (W.putObj w7.heap.size (.deferred none)) (w.heap.size + 1) (.bool false) 4 := (World.putObj_heap_other (by omega)).trans h3
    have cx := hx4.cell
    have HC2 : Hid (Ch (fun k => k = g) w (W.putObj w7.heap.size (.deferred none))) := c2
    clear h2 h3 h4 c0 c1 c2
    gi_wp2
    refine ⟨by simp, .inl ⟨_, _, rfl, takes hD, ?_⟩⟩
    refine ⟨.bool false, ?res, .inr ⟨HE.out, rfl⟩, HC2.out⟩
    case res => simp [results, Tryz.results69, go_sem, cx]
end Go.Proofs.YteifkkceldlfnaaGreatDoor

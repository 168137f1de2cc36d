/-
  The law's own told: does a run tell just these rows, from a key on?
-/
import Derived.Test.YtiaeicfmdnmeeaaH7Law
import Derived.Sort.QuietIn
namespace Go.Proofs.Ytiaeicfmdnmeeaa
open Go.RowKit Go.Shelf Go.Sort
open Go.Lib hiding intOf

attribute [local go_sem] Oper.semAt_some

/-- what stands in told (b: memory's size ahead of the call) -/
structure Td (w W : World) (v : Value) (i : Nat) : Prop where
  b4 : Bx W w.heap.size v 22
  b6 : Bx W (w.heap.size + 1) (.bool false) 4
  b7 : Bx W (w.heap.size + 1 + 1) (.int .i64 (i : Int)) 3
  bw : Below w.heap.size w W
theorem Td.below {w W W' : World} {v : Value} {i : Nat} (h : Td w W v i) (hb : Below W.heap.size W W') : Td w W' v i :=
  ⟨h.b4.below hb h.b4.lt, h.b6.below hb h.b6.lt, h.b7.below hb h.b7.lt, h.bw.trans (hb.mono h.bw.size)⟩
theorem Td.set {w W : World} {v : Value} {i j : Nat} (h : Td w W v i) : Td w (W.setCell ⟨w.heap.size + 1 + 1, 0, none⟩ (.int .i64 (j : Int))) v j := by
  have c : Ch (fun k => k = w.heap.size + 1 + 1) W (W.setCell ⟨w.heap.size + 1 + 1, 0, none⟩ (.int .i64 (j : Int))) := (Ch.refl _ W).setCell _ _ (fun _ => rfl)
  exact ⟨h.b4.ch c (by omega), h.b6.ch c (by omega), one0 h.b7 _, h.bw.setCell (by simp; omega) _⟩

/-- a drawn region of reads, in a range's round -/
theorem opIn_round {F : Fence} {n l : Nat} {P : Program} {o : Oper} {a : Act} {w : World} {K : Act → World → Prop} {Q : Exit → Act → World → Prop} (h : ∀ c, o.op ≠ .defer c) (hh : o.wpIn F n P a w K Q) : o.wpIn (F.inRound l) n P a w K Q := by
  unfold Oper.wpIn at *
  rw [Oper.semAt_plain _ _ _ h] at *
  exact hh
def noDefer (o : Oper) : Bool := match o.op with | .defer _ => false | _ => true
theorem noDefer_ne {o : Oper} (h : noDefer o = true) : ∀ c, o.op ≠ .defer c := by
  intro c e
  unfold noDefer at h
  rw [e] at h
  cases h
theorem anyIn_round {F : Fence} {n l : Nat} {P : Program} {md : Region.Mode} {ops : Array Oper} {Q : Exit → Act → World → Prop} (hd : ops.toList.all noDefer = true) : ∀ (fuel : Nat) (listed : Array Bool) (a : Act) (w : World), wpAnyIn F n P md ops Q fuel listed a w → wpAnyIn (F.inRound l) n P md ops Q fuel listed a w
  | 0, _, _, _, h => h
  | fuel + 1, listed, a, w, h => by
    refine ⟨h.1, fun i hi => ?_⟩
    have h2 := wpOpIn_mono (fun a w => anyIn_round (l := l) hd fuel _ a w) (h.2 i hi)
    unfold wpOpIn at h2 ⊢
    cases ho : ops[i]? with
    | none => rw [ho] at h2; exact h2
    | some o =>
      rw [ho] at h2
      simp only at h2 ⊢
      by_cases hw : Region.wanted o (yielded ops a.tmps) = true
      · rw [if_pos hw] at h2 ⊢
        exact opIn_round (noDefer_ne (List.all_eq_true.1 hd o (by rw [Array.mem_toList_iff]; exact Array.mem_of_getElem? ho))) h2
      · rw [if_neg hw] at h2 ⊢
        exact h2
theorem region_quiet_round {n l' id : Nat} {P : Program} {Q : Exit → Act → World → Prop} {a : Act} {w : World} {l : List Oper} (hm : P.follows .mixedOrders = true) (hB : Region.lexB .any l.toArray = true) (hd : l.all noDefer = true)
    (h : wpQuietIn Fence.wide n P l.toArray (fun w' => ∃ n, w' = w.drewN n) (fun a' => ∀ w', (∃ n, w' = w.drewN n) → Q .normal a' w') l a) : (Code.region id l.toArray true).wpIn (Fence.wide.inRound l') n P Q a w := by
  simp only [Region.lexB, Bool.and_eq_true] at hB
  refine wpIn_region_any hm (anyIn_round (by simpa using hd) _ _ _ _ (wpAnyIn_of_quiet (Q := fun a' => ∀ w', (∃ n, w' = w.drewN n) → Q .normal a' w') (C := fun w' => ∃ n, w' = w.drewN n) rfl (fun _ w' hw' h => h w' hw') _ _ _ _ ⟨1, rfl⟩ ?_))
  have := wpAnyQIn_lex (F := Fence.wide) (n := n) (C := fun w' => ∃ n, w' = w.drewN n) (md := .any) hB.1 l 0 (Array.replicate l.toArray.size false) a (by simp) (by simpa using hB.2) h
  simpa using this

set_option maxRecDepth 100000 in
set_option maxHeartbeats 4000000 in
theorem told_any {w : World} {B r n b1 b2 : Nat} {l : List R7} {v u : Value} (hu : Ru w B r l n u b1 b2) (hv : Rw7 w v l) (k : ByteArray) (hk : k.size < 4611686018427387904) (hm : ∀ x ∈ l, may x = 0) :
    Calls Try.prog 10 #[.pointer (some ⟨r, 0, none⟩), v, .string k] w fun e w' => e = .returned (.bool true) ∧ Below w.heap.size w w' := by
  have HRI : Hid (Rise (ks l)) := hu.ri
  have hle := hu.le
  have HV : Hid (Rw7 w v l) := hv
  obtain ⟨va, cap, rfl, -⟩ := hv
  obtain ⟨W3, hW3⟩ : ∃ W3, W3 = ((w.alloc (.cells #[.slice va l.length cap] 22)).alloc (.cells #[.bool false] 4)).alloc (.cells #[.int .i64 0] 3) := ⟨_, rfl⟩
  have hT3 : Td w W3 (.slice va l.length cap) 0 := by
    have al : ∀ (v : World) (o p : Obj) (k : Nat), v.heap[k]? = some p → (v.alloc o).heap[k]? = some p := fun v o p k h => (Below.heap_alloc v o k (Array.getElem?_eq_some_iff.1 h).1).trans h
    have nw : ∀ (v : World) (o : Obj) (k : Nat), k = v.heap.size → (v.alloc o).heap[k]? = some o := fun v o k h => by subst h; exact heap_alloc_new v o
    rw [hW3]
    exact ⟨al _ _ _ _ (al _ _ _ _ (nw _ _ _ rfl)), al _ _ _ _ (nw _ _ _ (by simp)), nw _ _ _ (by simp), (((Below.refl _ w).alloc (Nat.le_refl _) _).alloc (by simp) _).alloc (by simp; omega) _⟩
  have HU : Hid (Ru w B r l n u b1 b2) := hu
  have HT3 : Hid (Td w W3 (.slice va l.length cap) 0) := hT3
  have hal := at7_le l k
  clear hu hT3
  refine (callsIn_wide (n := 9)).1 ?_
  refine callsIn_of_wp_marks Try.func10 rfl trivial ?_ rfl
  simp only [Try.ntmps10, List.size_toArray, List.length_cons, List.length_nil, Nat.reduceAdd, Nat.reduceSub, Array.replicate_succ, Array.replicate_zero, List.push_toArray, List.append_toArray, List.nil_append, List.cons_append]
  gi_wp2
  rw [← hW3]
  clear hW3
  gi_loopw [] (fun wr => ∃ i : Nat, i ≤ at7 l k ∧ Hid (Td w wr (.slice va l.length cap) i)) (fun wr => match wr.cell? ⟨w.heap.size + 1 + 1, 0, none⟩ with | some (.int _ i) => l.length - i.toNat | _ => 0)
  case atStart => exact ⟨0, Nat.zero_le _, HT3⟩
  case round =>
    obtain ⟨i, hi, HT⟩ := hrel
    have g4 := HT.out.b4.cell
    have g7 := HT.out.b7.cell
    have f7 := HT.out.b7.fro
    have HCE : Hid (l ≠ [] → ∃ vb off, va = some ⟨vb, off, none⟩ ∧ ∀ W, Below w.heap.size w W → ∀ (j : Nat) (h : j < l.length), W.cell? ⟨vb, off + j * 3, none⟩ = some (.string (S l[j].1)) ∧ W.cell? ⟨vb, off + j * 3 + 1, none⟩ = some (.string (S l[j].2.1)) ∧ W.cell? ⟨vb, off + j * 3 + 2, none⟩ = some (.bool l[j].2.2)) := by
      intro hne
      obtain ⟨a', c', e, h⟩ := HV.out
      cases e
      rcases h with h | ⟨vb, off, rfl, hbl, hc⟩
      · exact absurd h hne
      · exact ⟨vb, off, rfl, fun W hB j hj => ⟨(hB.cell (p := ⟨vb, off + j * 3, none⟩) hbl).trans (hc j hj).1, (hB.cell (p := ⟨vb, off + j * 3 + 1, none⟩) hbl).trans (hc j hj).2.1, (hB.cell (p := ⟨vb, off + j * 3 + 2, none⟩) hbl).trans (hc j hj).2.2⟩⟩
    have fin : Hid (∀ W, Td w W (.slice va l.length cap) (at7 l k) → Ru W B r l n u b1 b2) := fun W h => HU.out.below h.bw
    by_cases hlt : i < at7 l k
    · have hil : i < l.length := by omega
      have hli : (i : Int) < (l.length : Int) := by omega
      have hi0 : (0 : Int) ≤ (i : Int) := by omega
      obtain ⟨vb, off, hva, hcell⟩ := HCE.out (fun e => by rw [e] at hil; simp at hil)
      subst hva
      have m0 := (hcell _ HT.out.bw i hil).1
      have hlt2 := (at7_lt HRI.out hil).2 hlt
      have HL := fun W => Less_any (S l[i].1) k (by rw [S_size]; have := (may_len (hm l[i] (List.getElem_mem hil))).1; omega) hk W
      rw [hlt2] at HL
      have HSS : Hid (∀ W2, Below wr.heap.size wr W2 → W2.cell? ⟨w.heap.size + 1 + 1, 0, none⟩ = some (.int .i64 (i : Int)) ∧ W2.frozen? ⟨w.heap.size + 1 + 1, 0, none⟩ = false ∧ Td w (W2.setCell ⟨w.heap.size + 1 + 1, 0, none⟩ (.int .i64 ((i + 1 : Nat) : Int))) (.slice (some ⟨vb, off, none⟩) l.length cap) (i + 1)) := fun W2 hb => by
        have := HT.out.below hb
        exact ⟨this.b7.cell, this.b7.fro, this.set⟩
      generalize l[i] = x at *
      clear hcell hlt2
      gi_wp2_with (first | (refine ⟨trivial, ?_⟩; gi_at_call 17; refine (callsIn_wide.2 (HL _)).mono ?_; rintro e w5 ⟨rfl, hb5⟩; obtain ⟨y1, y2, y3⟩ := HSS.out w5 hb5; have Y3 : Hid _ := y3; clear y3 hb5))
      go_roundw
      case rel => exact ⟨i + 1, by omega, Y3⟩
      case measure =>
        have e1 := Y3.out.b7.cell
        simp only [g7]
        simp only [Int.natCast_add, Int.natCast_one] at e1
        rw [e1]
        simp only
        omega
    · obtain rfl : i = at7 l k := by omega
      obtain ⟨p, HP⟩ : ∃ p, Hid (at7 l k = p) := ⟨_, show _ = _ from rfl⟩
      rw [HP.out] at HT fin g7 hal
      have HST : Hid (∃ w5, Td w w5 (.slice va l.length cap) p) := ⟨wr, HT.out⟩
      clear hi hlt f7
      have rest : ∀ w5 : World, Td w w5 (.slice va l.length cap) p → Hid (Td w w5 (.slice va l.length cap) p ∧ Calls Try.prog 29 #[.pointer (some ⟨r, 0, none⟩), .string k] w5 fun e w' => e = .returned (frv w5.heap.size) ∧ Sq encc w' (frv w5.heap.size) (l.drop (at7 l k)) (fun j => ruf r b1 b2 u j ∨ j = w5.heap.size ∨ j = w5.heap.size + 1) ∧ Below w5.heap.size w5 w') := fun w5 h => ⟨h, From_any (fin.out w5 h) k⟩
      by_cases hl0 : l = []
      · have hz : l.length = 0 := by rw [hl0]; rfl
        have hp0 : p = l.length := by omega
        have HZ : Hid (l.length = 0) := hz
        clear hz
        subst hp0
        have HDN : Hid (l.drop (at7 l k) = []) := by show _ = _; rw [hl0]; simp
        have R5 := rest wr HT.out
        have hli : ¬ (l.length : Int) < (l.length : Int) := by omega
        clear rest hl0
        gi_wp2
        refine ⟨trivial, ?_⟩
        gi_wp2_with (first
          | (refine ⟨trivial, ?_⟩; gi_at_call 29; refine (callsIn_wide.2 R5.out.2).mono ?_; rintro e w6 ⟨rfl, hS6, hb6⟩; have HS6 : Hid (Sq encc w6 (frv wr.heap.size) (l.drop (at7 l k)) (fun j => ruf r b1 b2 u j ∨ j = wr.heap.size ∨ j = wr.heap.size + 1)) := hS6; (have T6 : Hid (Td w w6 (.slice va l.length cap) l.length ∧ wr.heap.size ≤ w6.heap.size ∧ w.heap.size + 3 ≤ wr.heap.size) := ⟨R5.out.1.below hb6, hb6.size, by have := R5.out.1.b7.lt; omega⟩); clear hS6 hb6; unfold frv))
        have hS := HS6.out
        rw [HDN.out] at hS
        unfold frv at hS
        refine range_kc (r1 := 8) (r2 := 9) rfl hS (fun s pre W => Td w W (.slice va l.length cap) l.length ∧ w6.heap.size + 2 ≤ s ∧ s ≤ W.heap.size) (fun _ _ _ _ => False) ?hI ?hIx ?hIs ?start ?assign ?body ?done ?stop
        case hI =>
          rintro s pre A B ⟨h1, h2, h3⟩ hs
          have t6 := T6.out
          have hb := hs.below h1.bw (Nat.le_refl _) (by have := t6.1.bw.size; omega)
          exact ⟨⟨hs.bx h1.b4 (.inl (by omega)), hs.bx h1.b6 (.inl (by omega)), hs.bx h1.b7 (.inl (by omega)), hb⟩, h2, Nat.le_trans h3 hs.size⟩
        case hIx => rintro s c pre A B h; exact h.elim
        case hIs => exact fun s pre W h => h.2.2
        case start => exact fun W0 hB h0 => ⟨T6.out.1.below hB, h0, Nat.le_refl _⟩
        case assign =>
          intro mm l' x W K hK
          simp only [cbx, cv] at hK ⊢
          gi_wp2
          exact hK
        case body =>
          rintro mm l' s c pre x Wp W _ _ _ _ hnx
          obtain ⟨t, ht⟩ := hnx
          simp at ht
        case done =>
          rintro s W ⟨h1, h2, h3⟩ hD
          have t6 := T6.out
          have k4 := h1.b4.cell
          have k6 := h1.b6.cell
          have k6f := h1.b6.fro
          have k7 := h1.b7.cell
          have hbt : Hid (Td w W (.slice va l.length cap) l.length ∧ w6.heap.size + 2 ≤ s ∧ w.heap.size + 3 ≤ w6.heap.size) := ⟨h1, h2, by omega⟩
          have HD : Hid _ := hD
          clear h1 h2 h3 hD t6
          gi_wp2
          obtain ⟨h1, h2, h3⟩ := hbt.out
          have c1 : Ch (fun k => k = w.heap.size + 1) W (W.setCell ⟨w.heap.size + 1, 0, none⟩ (.bool true)) := (Ch.refl _ W).setCell _ _ (fun _ => rfl)
          have hd1 := c1.obj HD.out (by omega)
          have n6 : Bx ((W.setCell ⟨w.heap.size + 1, 0, none⟩ (.bool true)).putObj w6.heap.size (.deferred none)) (w.heap.size + 1) (.bool true) 4 := (World.putObj_heap_other (by omega)).trans (one0 h1.b6 _)
          have p6 := n6.cell
          refine ⟨by simp, .inl ⟨_, _, rfl, takes hd1, ?_⟩⟩
          refine ⟨.bool true, ?res, rfl, below_take (h1.bw.setCell (by simp) _) (Nat.le_refl _) (by omega) _⟩
          case res => simp [results, Try.results10, go_sem, p6]
        case stop => rintro s c pre W h; exact h.elim
      · obtain ⟨vb, off, hva, hcell⟩ := HCE.out hl0
        subst hva
        have HCL : Hid _ := hcell
        by_cases hpl : p < l.length
        · have hli : (p : Int) < (l.length : Int) := by omega
          have hi0 : (0 : Int) ≤ (p : Int) := by omega
          have m0 := (hcell _ HT.out.bw p hpl).1
          have hlt2 : lt (S l[p].1) k = false := by
            cases hh : lt (S l[p].1) k with
            | false => rfl
            | true => have := (at7_lt HRI.out hpl).1 hh; rw [HP.out] at this; omega
          have HL := fun W => Less_any (S l[p].1) k (by rw [S_size]; have := (may_len (hm l[p] (List.getElem_mem hpl))).1; omega) hk W
          rw [hlt2] at HL
          have HSS : Hid (∀ W2, Below wr.heap.size wr W2 → _) := fun W2 hb => rest W2 (HT.out.below hb)
          obtain ⟨x, HX⟩ : ∃ x, Hid (l[p] = x) := ⟨_, show _ = _ from rfl⟩
          rw [HX.out] at m0 HL
          clear hcell hlt2 rest
          gi_wp2_with (first
            | (refine ⟨trivial, ?_⟩; gi_at_call 17; refine (callsIn_wide.2 (HL _)).mono ?_; rintro e w5 ⟨rfl, hb5⟩; have R5 := HSS.out w5 hb5; clear hb5)
            | (refine ⟨trivial, ?_⟩; gi_at_call 29; refine (callsIn_wide.2 R5.out.2).mono ?_; rintro e w6 ⟨rfl, hS6, hb6⟩; have HS6 : Hid (Sq encc w6 (frv w5.heap.size) (l.drop (at7 l k)) (fun j => ruf r b1 b2 u j ∨ j = w5.heap.size ∨ j = w5.heap.size + 1)) := hS6; (have T6 : Hid (Td w w6 (.slice (some ⟨vb, off, none⟩) l.length cap) p ∧ w5.heap.size ≤ w6.heap.size ∧ w.heap.size + 3 ≤ w5.heap.size) := ⟨R5.out.1.below hb6, hb6.size, by have := R5.out.1.b7.lt; omega⟩); clear hS6 hb6; unfold frv))
          have hS := HS6.out
          rw [HP.out] at hS
          unfold frv at hS
          refine range_kc (r1 := 8) (r2 := 9) rfl hS (fun s pre W => Td w W (.slice (some ⟨vb, off, none⟩) l.length cap) (p + pre.length) ∧ w6.heap.size + 2 ≤ s ∧ s ≤ W.heap.size) (fun _ _ _ _ => False) ?hI ?hIx ?hIs ?start ?assign ?body ?done ?stop
          case hI =>
            rintro s pre A B ⟨h1, h2, h3⟩ hs
            have t6 := T6.out
            have hb := hs.below h1.bw (Nat.le_refl _) (by have := t6.1.bw.size; omega)
            exact ⟨⟨hs.bx h1.b4 (.inl (by omega)), hs.bx h1.b6 (.inl (by omega)), hs.bx h1.b7 (.inl (by omega)), hb⟩, h2, Nat.le_trans h3 hs.size⟩
          case hIx => rintro s c pre A B h; exact h.elim
          case hIs => exact fun s pre W h => h.2.2
          case start => exact fun W0 hB h0 => ⟨T6.out.1.below hB, h0, Nat.le_refl _⟩
          case assign =>
            intro mm l' x W K hK
            simp only [cbx, cv] at hK ⊢
            gi_wp2
            exact hK
          case body =>
            rintro mm l' s c pre x Wp W ⟨h1, h2, h3⟩ hsb hcb hcc hnx
            have t6 := T6.out
            have hTW : Td w W (.slice (some ⟨vb, off, none⟩) l.length cap) (p + pre.length) := ⟨hsb.bx h1.b4 (.inl (by omega)), hsb.bx h1.b6 (.inl (by omega)), hsb.bx h1.b7 (.inl (by omega)), hsb.below h1.bw (Nat.le_refl _) (by have := t6.1.bw.size; omega)⟩
            have hq : p + pre.length < l.length := by
              obtain ⟨t, ht⟩ := hnx
              have := congrArg List.length ht
              simp only [List.length_append, List.length_drop, List.length_singleton] at this
              omega
            have hx : l[p + pre.length] = x := by
              obtain ⟨t, ht⟩ := hnx
              have h5 : (l.drop p)[pre.length]? = some x := by rw [← ht]; simp
              rw [List.getElem?_drop] at h5
              rw [List.getElem?_eq_getElem hq] at h5
              exact Option.some.inj h5
            obtain ⟨z0, z1, z2⟩ := HCL.out W hTW.bw (p + pre.length) hq
            rw [hx] at z0 z1 z2
            have hx0 : W.cell? ⟨c, 0, none⟩ = some (.string (S x.2.1)) := by simp [World.cell?, hcc, cbx]
            have hx1 : W.cell? ⟨c, 1, none⟩ = some (.bool x.2.2) := by simp [World.cell?, hcc, cbx]
            obtain ⟨q, HQ⟩ : ∃ q, Hid (p + pre.length = q) := ⟨_, show _ = _ from rfl⟩
            rw [HQ.out] at hTW z0 z1 z2 hq
            have y4 := hTW.b4.cell
            have y7 := hTW.b7.cell
            have f7 := hTW.b7.fro
            have hqi : (q : Int) < (l.length : Int) := by omega
            have hqn : ¬ (l.length : Int) ≤ (q : Int) := by omega
            have hq0 : (0 : Int) ≤ (q : Int) := by omega
            have hqd : decide ((l.length : Int) ≤ (q : Int)) = false := decide_eq_false hqn
            have hqe : decide ((q : Int) ≥ (l.length : Int)) = false := decide_eq_false hqn
            have hqf : decide (l.length ≤ q) = false := decide_eq_false (by omega)
            have hqg : ¬ l.length ≤ q := by omega
            have HTW : Hid (Td w W (.slice (some ⟨vb, off, none⟩) l.length cap) q ∧ w6.heap.size + 2 ≤ s ∧ s ≤ Wp.heap.size ∧ Wp.heap.size ≤ W.heap.size) := ⟨hTW, h2, h3, hsb.size⟩
            have HNY : Hid (∀ j, ruf r b1 b2 u j → j < w.heap.size) := fun j hj => HU.out.lt hj
            simp only [List.setIfInBounds_toArray, List.set_cons_succ, List.set_cons_zero, cv]
            clear h1 hsb hcc hnx hTW hx t6
            gi_wp2
            refine region_quiet_round (by kernel_rfl) (by kernel_rfl) (by kernel_rfl) ?_
            repeat (gi_big_quiet_step (fail))
            refine wpQuietIn_nil ?_
            rintro _ ⟨nq, rfl⟩
            all_goals
              gi_wp2
              obtain ⟨t1, t2, t3, t4⟩ := HTW.out
              have t6 := T6.out
              have h0 := Ch.refl (fun k => k = w.heap.size + 1 + 1) W
              have c0 : Ch (fun k => k = w.heap.size + 1 + 1) W (W.drewN nq) := ⟨h0.os, h0.tape, h0.output, h0.size, h0.block⟩
              have c1 : Ch (fun k => k = w.heap.size + 1 + 1) W ((W.drewN nq).setCell ⟨w.heap.size + 1 + 1, 0, none⟩ (.int .i64 ((q : Int) + 1))) := c0.setCell _ _ (fun _ => rfl)
              have hq1 : p + (pre ++ [x]).length = q + 1 := by have := HQ.out; simp; omega
              have t1n : Td w (W.drewN nq) (.slice (some ⟨vb, off, none⟩) l.length cap) q := ⟨t1.b4, t1.b6, t1.b7, ⟨t1.bw.os, t1.bw.tape, t1.bw.output, t1.bw.size, t1.bw.block⟩⟩
              have t1s := t1n.set (j := q + 1)
              refine ⟨KeepsFrom.of_ch c1 (fun k (e : k = w.heap.size + 1 + 1) => by subst e; exact ⟨_, t1.b7, rfl⟩), Kq.of_ch c1 (fun k hk (e : k = w.heap.size + 1 + 1) => ?_), ?_⟩
              · subst e
                rcases hk with (h | h | h) | h | h
                · have := HNY.out _ h; omega
                · omega
                · omega
                · omega
                · omega
              · simp only [hq1]
                exact ⟨t1s, t2, by have := c1.size; omega⟩
          case done =>
            rintro s W ⟨h1, h2, h3⟩ hD
            have hpl2 : p + (l.drop p).length = l.length := by rw [List.length_drop]; omega
            rw [hpl2] at h1
            have t6 := T6.out
            have k4 := h1.b4.cell
            have k6 := h1.b6.cell
            have k6f := h1.b6.fro
            have k7 := h1.b7.cell
            have hbt : Hid (Td w W (.slice (some ⟨vb, off, none⟩) l.length cap) l.length ∧ w6.heap.size + 2 ≤ s ∧ w.heap.size + 3 ≤ w6.heap.size) := ⟨h1, h2, by omega⟩
            have HD : Hid _ := hD
            clear h1 h2 h3 hD t6
            gi_wp2
            obtain ⟨h1, h2, h3⟩ := hbt.out
            have c1 : Ch (fun k => k = w.heap.size + 1) W (W.setCell ⟨w.heap.size + 1, 0, none⟩ (.bool true)) := (Ch.refl _ W).setCell _ _ (fun _ => rfl)
            have hd1 := c1.obj HD.out (by omega)
            have n6 : Bx ((W.setCell ⟨w.heap.size + 1, 0, none⟩ (.bool true)).putObj w6.heap.size (.deferred none)) (w.heap.size + 1) (.bool true) 4 := (World.putObj_heap_other (by omega)).trans (one0 h1.b6 _)
            have p6 := n6.cell
            refine ⟨by simp, .inl ⟨_, _, rfl, takes hd1, ?_⟩⟩
            refine ⟨.bool true, ?res, rfl, below_take (h1.bw.setCell (by simp) _) (Nat.le_refl _) (by omega) _⟩
            case res => simp [results, Try.results10, go_sem, p6]
          case stop => rintro s c pre W h; exact h.elim
        · have hli : ¬ (p : Int) < (l.length : Int) := by omega
          have R5 := rest wr HT.out
          obtain ⟨w5, HW5⟩ : ∃ w5, Hid (wr = w5) := ⟨_, show _ = _ from rfl⟩
          clear rest hcell
          gi_wp2
          refine ⟨trivial, ?_⟩
          rw [HW5.out] at R5 ⊢
          gi_wp2_with (first
            | (refine ⟨trivial, ?_⟩; gi_at_call 29; refine (callsIn_wide.2 R5.out.2).mono ?_; rintro e w6 ⟨rfl, hS6, hb6⟩; have HS6 : Hid (Sq encc w6 (frv w5.heap.size) (l.drop (at7 l k)) (fun j => ruf r b1 b2 u j ∨ j = w5.heap.size ∨ j = w5.heap.size + 1)) := hS6; (have T6 : Hid (Td w w6 (.slice (some ⟨vb, off, none⟩) l.length cap) p ∧ w5.heap.size ≤ w6.heap.size ∧ w.heap.size + 3 ≤ w5.heap.size) := ⟨R5.out.1.below hb6, hb6.size, by have := R5.out.1.b7.lt; omega⟩); clear hS6 hb6; unfold frv))
          have hS := HS6.out
          rw [HP.out] at hS
          unfold frv at hS
          refine range_kc (r1 := 8) (r2 := 9) rfl hS (fun s pre W => Td w W (.slice (some ⟨vb, off, none⟩) l.length cap) (p + pre.length) ∧ w6.heap.size + 2 ≤ s ∧ s ≤ W.heap.size) (fun _ _ _ _ => False) ?hI ?hIx ?hIs ?start ?assign ?body ?done ?stop
          case hI =>
            rintro s pre A B ⟨h1, h2, h3⟩ hs
            have t6 := T6.out
            have hb := hs.below h1.bw (Nat.le_refl _) (by have := t6.1.bw.size; omega)
            exact ⟨⟨hs.bx h1.b4 (.inl (by omega)), hs.bx h1.b6 (.inl (by omega)), hs.bx h1.b7 (.inl (by omega)), hb⟩, h2, Nat.le_trans h3 hs.size⟩
          case hIx => rintro s c pre A B h; exact h.elim
          case hIs => exact fun s pre W h => h.2.2
          case start => exact fun W0 hB h0 => ⟨T6.out.1.below hB, h0, Nat.le_refl _⟩
          case assign =>
            intro mm l' x W K hK
            simp only [cbx, cv] at hK ⊢
            gi_wp2
            exact hK
          case body =>
            rintro mm l' s c pre x Wp W - - - - hnx
            exfalso
            obtain ⟨t, ht⟩ := hnx
            have := congrArg List.length ht
            simp only [List.length_append, List.length_drop, List.length_singleton] at this
            omega
          case done =>
            rintro s W ⟨h1, h2, h3⟩ hD
            have hpl2 : p + (l.drop p).length = l.length := by rw [List.length_drop]; omega
            rw [hpl2] at h1
            have t6 := T6.out
            have k4 := h1.b4.cell
            have k6 := h1.b6.cell
            have k6f := h1.b6.fro
            have k7 := h1.b7.cell
            have hbt : Hid (Td w W (.slice (some ⟨vb, off, none⟩) l.length cap) l.length ∧ w6.heap.size + 2 ≤ s ∧ w.heap.size + 3 ≤ w6.heap.size) := ⟨h1, h2, by omega⟩
            have HD : Hid _ := hD
            clear h1 h2 h3 hD t6
            gi_wp2
            obtain ⟨h1, h2, h3⟩ := hbt.out
            have c1 : Ch (fun k => k = w.heap.size + 1) W (W.setCell ⟨w.heap.size + 1, 0, none⟩ (.bool true)) := (Ch.refl _ W).setCell _ _ (fun _ => rfl)
            have hd1 := c1.obj HD.out (by omega)
            have n6 : Bx ((W.setCell ⟨w.heap.size + 1, 0, none⟩ (.bool true)).putObj w6.heap.size (.deferred none)) (w.heap.size + 1) (.bool true) 4 := (World.putObj_heap_other (by omega)).trans (one0 h1.b6 _)
            have p6 := n6.cell
            refine ⟨by simp, .inl ⟨_, _, rfl, takes hd1, ?_⟩⟩
            refine ⟨.bool true, ?res, rfl, below_take (h1.bw.setCell (by simp) _) (Nat.le_refl _) (by omega) _⟩
            case res => simp [results, Try.results10, go_sem, p6]
          case stop => rintro s c pre W h; exact h.elim
end Go.Proofs.Ytiaeicfmdnmeeaa

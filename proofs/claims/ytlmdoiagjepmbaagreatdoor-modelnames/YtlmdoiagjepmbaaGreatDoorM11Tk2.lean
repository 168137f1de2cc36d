/-
  Package model: lists of nodes and flows are taken.
-/
import Derived.Test.YtlmdoiagjepmbaaGreatDoorGTake
namespace Go.Proofs.YtlmdoiagjepmbaaGreatDoor.m11
open Go.Proofs.YtlmdoiagjepmbaaGreatDoor.x10
open Go.RowKit Go.Shelf Go.Sort
open Go.Lib hiding intOf

def tLoop {α : Type} (f : Ts → α × Ts) : Nat → Ts → List α × Ts
  | 0, s => ([], s)
  | n + 1, s => ((f s).1 :: (tLoop f n (f s).2).1, (tLoop f n (f s).2).2)
def tMany {α : Type} (most : Nat) (f : Ts → α × Ts) (s : Ts) : List α × Ts :=
  if most < (rdU s.l s.e).1 then ([], ⟨(rdU s.l s.e).2.1, (rdU s.l s.e).2.2, ref1 s.t 13⟩) else tLoop f (rdU s.l s.e).1 ⟨(rdU s.l s.e).2.1, (rdU s.l s.e).2.2, s.t⟩
def nc7 (x : Nd) : List Value := [.int .i64 x.kind, .int .i64 x.parent, .int .i64 x.host, .string (S x.name), .string (S x.typ), .string (S x.key), .int .i64 x.n]
def fc3 (x : Fl) : List Value := [.int .i64 x.src, .int .i64 x.dst, .string (S x.cond)]
def ncs (l : List Nd) : List Value := (l.map nc7).flatten
def fcs (l : List Fl) : List Value := (l.map fc3).flatten
theorem ncs_snoc (l : List Nd) (x : Nd) : ncs (l ++ [x]) = ncs l ++ nc7 x := by simp [ncs]
theorem fcs_snoc (l : List Fl) (x : Fl) : fcs (l ++ [x]) = fcs l ++ fc3 x := by simp [fcs]
theorem infoN : (Tryz.prog.info? 32).map (fun i => (i.zero, i.size, i.bytes)) = some (some (.agg #[.int .i64 0, .int .i64 0, .int .i64 0, .string ⟨#[]⟩, .string ⟨#[]⟩, .string ⟨#[]⟩, .int .i64 0]), 7, 80) := by kernel_rfl
theorem infoF : (Tryz.prog.info? 37).map (fun i => (i.zero, i.size, i.bytes)) = some (some (.agg #[.int .i64 0, .int .i64 0, .string ⟨#[]⟩]), 3, 32) := by kernel_rfl
theorem new_many (w : World) (n : Nat) (hn : n = w.heap.size) (a : Array Value) (t : TypeId) : ∀ j u, a.toList[j]? = some u → (w.alloc (.cells a t)).cell? ((⟨n, 0, none⟩ : Addr).add j) = some u := by
  intro j u h
  subst hn
  rw [Addr.add_lit, Nat.zero_add, World.cell?_alloc_new, ← Array.getElem?_toList]
  exact h
theorem grow_tk {w2 w5 : World} {tb rb n : Nat} {s : Ts} {o : Obj} {row : Option Nat} (ht : Tk w2 tb rb s) (h1 : tb < n) (h2 : rb < n) (hn : n ≤ w2.heap.size) (hg : (w2.alloc o).grownBy w5 row) (hr : ∀ k, row = some k → n ≤ k) : Tk w5 tb rb s ∧ Below n w2 w5 := by
  have hb : Below n w2 w5 := ((Below.refl n w2).alloc hn o).grown hg (by simp; omega) hr
  exact ⟨ht.same (hb.block _ h1) (hb.block _ h2) hb.size, hb⟩
theorem ch_below {X : Nat → Prop} {w w2 w5 : World} {n : Nat} (h : Ch X w w2) (hb : Below n w2 w5) (hn : w.heap.size ≤ n) : Ch X w w5 := ⟨hb.os.trans h.os, hb.tape.trans h.tape, hb.output.trans h.output, Nat.le_trans h.size hb.size, fun k hk hx => (hb.block k (by omega)).trans (h.block k hk hx)⟩

theorem ncs_at {l : List Nd} {j : Nat} (hj : j < l.length) {i : Nat} (hi : i < 7) : (ncs l)[j * 7 + i]? = (nc7 l[j])[i]? := by
  induction l generalizing j with
  | nil => cases hj
  | cons x t ih =>
    have hx : (nc7 x).length = 7 := rfl
    rw [show ncs (x :: t) = nc7 x ++ ncs t by simp [ncs]]
    cases j with
    | zero => rw [Nat.zero_mul, Nat.zero_add, List.getElem?_append_left (by omega)]; rfl
    | succ j =>
      rw [List.getElem?_append_right (by omega), hx, show (j + 1) * 7 + i - 7 = j * 7 + i by omega]
      exact ih (by simpa using hj)

theorem fcs_at {l : List Fl} {j : Nat} (hj : j < l.length) {i : Nat} (hi : i < 3) : (fcs l)[j * 3 + i]? = (fc3 l[j])[i]? := by
  induction l generalizing j with
  | nil => cases hj
  | cons x t ih =>
    have hx : (fc3 x).length = 3 := rfl
    rw [show fcs (x :: t) = fc3 x ++ fcs t by simp [fcs]]
    cases j with
    | zero => rw [Nat.zero_mul, Nat.zero_add, List.getElem?_append_left (by omega)]; rfl
    | succ j =>
      rw [List.getElem?_append_right (by omega), hx, show (j + 1) * 3 + i - 3 = j * 3 + i by omega]
      exact ih (by simpa using hj)

theorem ncs_len (l : List Nd) : (ncs l).length = l.length * 7 := by
  induction l with
  | nil => rfl
  | cons x t ih => rw [show ncs (x :: t) = nc7 x ++ ncs t by simp [ncs], List.length_append, ih, List.length_cons]; simp [nc7]; omega
set_option maxRecDepth 100000 in
set_option maxHeartbeats 2000000 in
theorem takeListNode {w : World} {tb rb : Nat} {s : Ts} (h : Tk w tb rb s) (most : Nat) (hm : most ≤ 100) : Calls Tryz.prog 46 #[.pointer (some ⟨tb, 0, none⟩), .int .u64 (most : Int), .func (.func 47) #[.pointer (some ⟨tb, 0, none⟩)] #[]] w fun e w' => ∃ a c, e = .returned (.slice a (tMany most tNode s).1.length c) ∧ w'.ownsRow w.heap.size 32 7 (.slice a (tMany most tNode s).1.length c) (tMany most tNode s).1.length (ncs (tMany most tNode s).1) ∧ Tk w' tb rb (tMany most tNode s).2 ∧ Ch (X2 tb rb) w w' := by
  obtain ⟨i0, hi0, hz0, hz1, hz2⟩ := info_parts infoN
  obtain ⟨v, l2, e2, hr⟩ : ∃ v l2 e2, rdU s.l s.e = (v, l2, e2) := ⟨_, _, _, rfl⟩
  have hl2 : l2.length ≤ 8192 := by have := rdU_le s.l s.e; rw [hr] at this; exact Nat.le_trans this h.le
  have CU := Uint_all h.r hr
  have HT : Hid (∀ w1, But rb w w1 → Rd w1 rb l2 e2 → Tk w1 tb rb ⟨l2, e2, s.t⟩ ∧ Ch (X2 tb rb) w w1) := fun w1 hb h1 => ⟨h.read hb h1 hl2, but_ch hb (.inr rfl)⟩
  have c0 := h.c0
  have HL : Hid (tb < w.heap.size ∧ rb < w.heap.size) := ⟨h.lt, h.r.lt⟩
  unfold tMany
  rw [hr]
  simp only
  clear h hr hl2
  by_cases hgt : most < v
  · rw [if_pos hgt]
    have hgt' : (most : Int) < (v : Int) := by omega
    go_enter Tryz.func46, Tryz.ntmps46
    go_wp2_with (first
      | (go_at_call 88; refine CU.mono ?_; rintro e w1 ⟨rfl, h1, hb1⟩; obtain ⟨t1, k1⟩ := HT.out w1 hb1 h1; (have CR := refuse_any t1 13); (have K1 : Hid (Ch (X2 tb rb) w w1) := k1); clear h1 hb1 t1 k1 CU)
      | (go_at_call 89; refine CR.mono ?_; rintro e w2 ⟨rfl, t2, k2⟩; (have K2 : Hid (Tk w2 tb rb ⟨l2, e2, ref1 s.t 13⟩ ∧ Ch (X2 tb rb) w w2) := ⟨t2, K1.out.trans k2⟩); clear t2 k2 CR))
    go_ret
    exact ⟨none, 0, rfl, ⟨rfl, .inl ⟨rfl, rfl⟩⟩, K2.out⟩
  · rw [if_neg hgt]
    have hgt' : ¬ (most : Int) < (v : Int) := by omega
    have hv : v ≤ 100 := by omega
    obtain ⟨R, hR⟩ : ∃ R, tLoop tNode v ⟨l2, e2, s.t⟩ = R := ⟨_, rfl⟩
    rw [hR]
    have HR : Hid (tLoop tNode v ⟨l2, e2, s.t⟩ = R) := hR
    have hgd : decide (most < v) = false := decide_eq_false hgt
    clear hR
    go_enter Tryz.func46, Tryz.ntmps46
    go_wp2_with (go_at_call 88; refine CU.mono ?_; rintro e w1 ⟨rfl, h1, hb1⟩; (have K1 : Hid (Tk w1 tb rb ⟨l2, e2, s.t⟩ ∧ Ch (X2 tb rb) w w1) := HT.out w1 hb1 h1); clear h1 hb1 CU HT)
    go_loopw [20, 8] (fun v20 v8 wr => ∃ (j : Nat) (f : List Nd) (fa : Option Addr) (fc : Nat) (st : Ts), v20 = .int .u64 (j : Int) ∧ v8 = .slice fa f.length fc ∧ j ≤ v ∧ f.length = j ∧ Hid (wr.ownsRow w.heap.size 32 7 (.slice fa f.length fc) f.length (ncs f)) ∧ Hid (Tk wr tb rb st ∧ Ch (X2 tb rb) w wr) ∧ Hid ((f ++ (tLoop tNode (v - j) st).1, (tLoop tNode (v - j) st).2) = R)) (fun v20 _ _ => v - (intOf v20).toNat)
    case atStart => exact ⟨0, [], none, 0, ⟨l2, e2, s.t⟩, rfl, rfl, Nat.zero_le _, rfl, ⟨rfl, .inl ⟨rfl, rfl⟩⟩, K1.out, by show _ = _; rw [Nat.sub_zero, HR.out]; rfl⟩
    case round =>
      obtain ⟨j, f, fa, fc, st, rfl, rfl, hj, hf, HF, HK, HP⟩ := hrel
      have HFL : Hid (f.length = j) := hf
      have hfl : f.length ≤ 100 := by omega
      clear hf
      by_cases hjl : j < v
      · have hjl' : (j : Int) < (v : Int) := by omega
        have CN := tnode_any HK.out.1
        obtain ⟨x, st2, hx⟩ : ∃ x st2, tNode st = (x, st2) := ⟨_, _, rfl⟩
        rw [hx] at CN
        have HN : Hid ((f ++ [x] ++ (tLoop tNode (v - (j + 1)) st2).1, (tLoop tNode (v - (j + 1)) st2).2) = R) := by
          show _ = _
          rw [← HP.out, show v - j = (v - (j + 1)) + 1 by omega, tLoop, hx]
          simp
        have hin : IntKind.u64.wrap ((j : Int) + 1) = ((j + 1 : Nat) : Int) := by rw [IntKind.wrap_u64]; omega
        have HY0 : Hid (∀ w2, Tk w2 tb rb st2 → Ch (X2 tb rb) wr w2 → w2.ownsRow w.heap.size 32 7 (.slice fa f.length fc) f.length (ncs f) ∧ Tk w2 tb rb st2 ∧ Ch (X2 tb rb) w w2) := fun w2 t2 k2 => ⟨k2.row HF.out (fun k hk e => by
          have h1 := (HF.out.lt k hk).1
          have h2 := HL.out
          rcases e with e | e <;> omega), t2, HK.out.2.trans k2⟩
        clear hx HP
        obtain ⟨x0, x1, x2, x3, x4, x5, x6⟩ := x
        unfold nA at CN
        simp only at CN
        go_wp2_with (first
          | (go_at_call 47; refine CN.mono ?_; rintro e w2 ⟨rfl, t2, k2⟩; (have HY : Hid _ := HY0.out w2 t2 k2); clear t2 k2 CN HY0)
          | (at_builtin; refine wpList_append_own _ rfl _ _ 22 rfl w.heap.size 32 i0 _ 7 80 Tryz.underlying22 hi0 hz0 hz1 hz2 rfl (by decide) _ f.length (ncs f) rfl (HY.out.1.alloc _) ⟨w2.heap.size, 0, none⟩ 1 1 [.int .i64 x0, .int .i64 x1, .int .i64 x2, .string (S x3), .string (S x4), .string (S x5), .int .i64 x6] rfl rfl (new_many _ _ rfl _ _) (by simp [Value.oneCell']) (by unfold maxLen; omega) (by omega) (by have := HY.out.2.2.size; simp; omega) ?_; intro v5 w5 ho5 hg5 _; have HO5 : Hid _ := ho5; have HG5 : Hid _ := hg5; obtain ⟨a5, c5', rfl, -⟩ := row_slice ho5; clear ho5 hg5))
        go_roundw
        case rel =>
          have hlen : (f ++ [(⟨x0, x1, x2, x3, x4, x5, x6⟩ : Nd)]).length = f.length + 1 := by rw [List.length_append, List.length_singleton]
          have hgr := grow_tk HY.out.2.1 HL.out.1 HL.out.2 HY.out.2.2.size HG5.out (fun k hk => (HY.out.1.lt k hk).1)
          refine ⟨j + 1, f ++ [(⟨x0, x1, x2, x3, x4, x5, x6⟩ : Nd)], a5, c5', st2, by simp, by rw [hlen], by omega, by rw [hlen, HFL.out], ?_, ⟨hgr.1, ch_below HY.out.2.2 hgr.2 (Nat.le_refl _)⟩, HN.out⟩
          show World.ownsRow _ _ _ _ _ _ _
          rw [hlen, ncs_snoc]
          exact HO5.out
        case measure => simp [intOf]; omega
      · have hjl' : ¬ (j : Int) < (v : Int) := by omega
        obtain rfl : j = v := by omega
        have HE : Hid (R = (f, st)) := by show _ = _; rw [← HP.out, Nat.sub_self]; simp [tLoop]
        clear HP HR
        go_wp2
        go_ret
        rw [HE.out]
        exact ⟨_, _, rfl, HF.out, HK.out⟩
theorem row_Node {w : World} {B : Nat} {a : Option Addr} {c : Nat} {l : List Nd} (h : w.ownsRow B 32 7 (.slice a l.length c) l.length (ncs l)) : Ns w (.slice a l.length c) l := by
  obtain ⟨h1, h2⟩ := h
  rcases h2 with ⟨h4, h3⟩ | ⟨g, cap, cur, h3, h4, h5, h6, h7, h8, h9⟩
  · have hl : l = [] := List.eq_nil_of_length_eq_zero h3
    subst hl
    cases h4
    exact ⟨_, _, rfl, ⟨Nat.le_refl _, fun _ => rfl⟩, .inl rfl⟩
  · cases h3
    refine ⟨_, _, rfl, ⟨h6, fun e => by cases e⟩, .inr ⟨g, 0, rfl, (Array.getElem?_eq_some_iff.1 h5).1, fun j hj => ?_⟩⟩
    have key : ∀ i, i < 7 → w.cell? ⟨g, 0 + j * 7 + i, none⟩ = (nc7 l[j])[i]? := fun i hi => by
      have h10 : (ncs l)[j * 7 + i]? = (nc7 l[j])[i]? := ncs_at hj hi
      rw [← h9, List.getElem?_take, if_pos (by omega), Array.getElem?_toList] at h10
      rw [Nat.zero_add]
      simpa [World.cell?, h5] using h10
    exact ⟨key 0 (by omega), key 1 (by omega), key 2 (by omega), key 3 (by omega), key 4 (by omega), key 5 (by omega), key 6 (by omega)⟩

theorem fcs_len (l : List Fl) : (fcs l).length = l.length * 3 := by
  induction l with
  | nil => rfl
  | cons x t ih => rw [show fcs (x :: t) = fc3 x ++ fcs t by simp [fcs], List.length_append, ih, List.length_cons]; simp [fc3]; omega
set_option maxRecDepth 100000 in
set_option maxHeartbeats 2000000 in
theorem takeListFlow {w : World} {tb rb : Nat} {s : Ts} (h : Tk w tb rb s) (most : Nat) (hm : most ≤ 100) : Calls Tryz.prog 48 #[.pointer (some ⟨tb, 0, none⟩), .int .u64 (most : Int), .func (.func 49) #[.pointer (some ⟨tb, 0, none⟩)] #[]] w fun e w' => ∃ a c, e = .returned (.slice a (tMany most tFlow s).1.length c) ∧ w'.ownsRow w.heap.size 37 3 (.slice a (tMany most tFlow s).1.length c) (tMany most tFlow s).1.length (fcs (tMany most tFlow s).1) ∧ Tk w' tb rb (tMany most tFlow s).2 ∧ Ch (X2 tb rb) w w' := by
  obtain ⟨i0, hi0, hz0, hz1, hz2⟩ := info_parts infoF
  obtain ⟨v, l2, e2, hr⟩ : ∃ v l2 e2, rdU s.l s.e = (v, l2, e2) := ⟨_, _, _, rfl⟩
  have hl2 : l2.length ≤ 8192 := by have := rdU_le s.l s.e; rw [hr] at this; exact Nat.le_trans this h.le
  have CU := Uint_all h.r hr
  have HT : Hid (∀ w1, But rb w w1 → Rd w1 rb l2 e2 → Tk w1 tb rb ⟨l2, e2, s.t⟩ ∧ Ch (X2 tb rb) w w1) := fun w1 hb h1 => ⟨h.read hb h1 hl2, but_ch hb (.inr rfl)⟩
  have c0 := h.c0
  have HL : Hid (tb < w.heap.size ∧ rb < w.heap.size) := ⟨h.lt, h.r.lt⟩
  unfold tMany
  rw [hr]
  simp only
  clear h hr hl2
  by_cases hgt : most < v
  · rw [if_pos hgt]
    have hgt' : (most : Int) < (v : Int) := by omega
    go_enter Tryz.func48, Tryz.ntmps48
    go_wp2_with (first
      | (go_at_call 88; refine CU.mono ?_; rintro e w1 ⟨rfl, h1, hb1⟩; obtain ⟨t1, k1⟩ := HT.out w1 hb1 h1; (have CR := refuse_any t1 13); (have K1 : Hid (Ch (X2 tb rb) w w1) := k1); clear h1 hb1 t1 k1 CU)
      | (go_at_call 89; refine CR.mono ?_; rintro e w2 ⟨rfl, t2, k2⟩; (have K2 : Hid (Tk w2 tb rb ⟨l2, e2, ref1 s.t 13⟩ ∧ Ch (X2 tb rb) w w2) := ⟨t2, K1.out.trans k2⟩); clear t2 k2 CR))
    go_ret
    exact ⟨none, 0, rfl, ⟨rfl, .inl ⟨rfl, rfl⟩⟩, K2.out⟩
  · rw [if_neg hgt]
    have hgt' : ¬ (most : Int) < (v : Int) := by omega
    have hv : v ≤ 100 := by omega
    obtain ⟨R, hR⟩ : ∃ R, tLoop tFlow v ⟨l2, e2, s.t⟩ = R := ⟨_, rfl⟩
    rw [hR]
    have HR : Hid (tLoop tFlow v ⟨l2, e2, s.t⟩ = R) := hR
    have hgd : decide (most < v) = false := decide_eq_false hgt
    clear hR
    go_enter Tryz.func48, Tryz.ntmps48
    go_wp2_with (go_at_call 88; refine CU.mono ?_; rintro e w1 ⟨rfl, h1, hb1⟩; (have K1 : Hid (Tk w1 tb rb ⟨l2, e2, s.t⟩ ∧ Ch (X2 tb rb) w w1) := HT.out w1 hb1 h1); clear h1 hb1 CU HT)
    go_loopw [20, 8] (fun v20 v8 wr => ∃ (j : Nat) (f : List Fl) (fa : Option Addr) (fc : Nat) (st : Ts), v20 = .int .u64 (j : Int) ∧ v8 = .slice fa f.length fc ∧ j ≤ v ∧ f.length = j ∧ Hid (wr.ownsRow w.heap.size 37 3 (.slice fa f.length fc) f.length (fcs f)) ∧ Hid (Tk wr tb rb st ∧ Ch (X2 tb rb) w wr) ∧ Hid ((f ++ (tLoop tFlow (v - j) st).1, (tLoop tFlow (v - j) st).2) = R)) (fun v20 _ _ => v - (intOf v20).toNat)
    case atStart => exact ⟨0, [], none, 0, ⟨l2, e2, s.t⟩, rfl, rfl, Nat.zero_le _, rfl, ⟨rfl, .inl ⟨rfl, rfl⟩⟩, K1.out, by show _ = _; rw [Nat.sub_zero, HR.out]; rfl⟩
    case round =>
      obtain ⟨j, f, fa, fc, st, rfl, rfl, hj, hf, HF, HK, HP⟩ := hrel
      have HFL : Hid (f.length = j) := hf
      have hfl : f.length ≤ 100 := by omega
      clear hf
      by_cases hjl : j < v
      · have hjl' : (j : Int) < (v : Int) := by omega
        have CN := tflow_any HK.out.1
        obtain ⟨x, st2, hx⟩ : ∃ x st2, tFlow st = (x, st2) := ⟨_, _, rfl⟩
        rw [hx] at CN
        have HN : Hid ((f ++ [x] ++ (tLoop tFlow (v - (j + 1)) st2).1, (tLoop tFlow (v - (j + 1)) st2).2) = R) := by
          show _ = _
          rw [← HP.out, show v - j = (v - (j + 1)) + 1 by omega, tLoop, hx]
          simp
        have hin : IntKind.u64.wrap ((j : Int) + 1) = ((j + 1 : Nat) : Int) := by rw [IntKind.wrap_u64]; omega
        have HY0 : Hid (∀ w2, Tk w2 tb rb st2 → Ch (X2 tb rb) wr w2 → w2.ownsRow w.heap.size 37 3 (.slice fa f.length fc) f.length (fcs f) ∧ Tk w2 tb rb st2 ∧ Ch (X2 tb rb) w w2) := fun w2 t2 k2 => ⟨k2.row HF.out (fun k hk e => by
          have h1 := (HF.out.lt k hk).1
          have h2 := HL.out
          rcases e with e | e <;> omega), t2, HK.out.2.trans k2⟩
        clear hx HP
        obtain ⟨x0, x1, x2⟩ := x
        unfold fA at CN
        simp only at CN
        go_wp2_with (first
          | (go_at_call 49; refine CN.mono ?_; rintro e w2 ⟨rfl, t2, k2⟩; (have HY : Hid _ := HY0.out w2 t2 k2); clear t2 k2 CN HY0)
          | (at_builtin; refine wpList_append_own _ rfl _ _ 23 rfl w.heap.size 37 i0 _ 3 32 Tryz.underlying23 hi0 hz0 hz1 hz2 rfl (by decide) _ f.length (fcs f) rfl (HY.out.1.alloc _) ⟨w2.heap.size, 0, none⟩ 1 1 [.int .i64 x0, .int .i64 x1, .string (S x2)] rfl rfl (new_many _ _ rfl _ _) (by simp [Value.oneCell']) (by unfold maxLen; omega) (by omega) (by have := HY.out.2.2.size; simp; omega) ?_; intro v5 w5 ho5 hg5 _; have HO5 : Hid _ := ho5; have HG5 : Hid _ := hg5; obtain ⟨a5, c5', rfl, -⟩ := row_slice ho5; clear ho5 hg5))
        go_roundw
        case rel =>
          have hlen : (f ++ [(⟨x0, x1, x2⟩ : Fl)]).length = f.length + 1 := by rw [List.length_append, List.length_singleton]
          have hgr := grow_tk HY.out.2.1 HL.out.1 HL.out.2 HY.out.2.2.size HG5.out (fun k hk => (HY.out.1.lt k hk).1)
          refine ⟨j + 1, f ++ [(⟨x0, x1, x2⟩ : Fl)], a5, c5', st2, by simp, by rw [hlen], by omega, by rw [hlen, HFL.out], ?_, ⟨hgr.1, ch_below HY.out.2.2 hgr.2 (Nat.le_refl _)⟩, HN.out⟩
          show World.ownsRow _ _ _ _ _ _ _
          rw [hlen, fcs_snoc]
          exact HO5.out
        case measure => simp [intOf]; omega
      · have hjl' : ¬ (j : Int) < (v : Int) := by omega
        obtain rfl : j = v := by omega
        have HE : Hid (R = (f, st)) := by show _ = _; rw [← HP.out, Nat.sub_self]; simp [tLoop]
        clear HP HR
        go_wp2
        go_ret
        rw [HE.out]
        exact ⟨_, _, rfl, HF.out, HK.out⟩
theorem row_Flow {w : World} {B : Nat} {a : Option Addr} {c : Nat} {l : List Fl} (h : w.ownsRow B 37 3 (.slice a l.length c) l.length (fcs l)) : Fs w (.slice a l.length c) l := by
  obtain ⟨h1, h2⟩ := h
  rcases h2 with ⟨h4, h3⟩ | ⟨g, cap, cur, h3, h4, h5, h6, h7, h8, h9⟩
  · have hl : l = [] := List.eq_nil_of_length_eq_zero h3
    subst hl
    cases h4
    exact ⟨_, _, rfl, ⟨Nat.le_refl _, fun _ => rfl⟩, .inl rfl⟩
  · cases h3
    refine ⟨_, _, rfl, ⟨h6, fun e => by cases e⟩, .inr ⟨g, 0, rfl, (Array.getElem?_eq_some_iff.1 h5).1, fun j hj => ?_⟩⟩
    have key : ∀ i, i < 3 → w.cell? ⟨g, 0 + j * 3 + i, none⟩ = (fc3 l[j])[i]? := fun i hi => by
      have h10 : (fcs l)[j * 3 + i]? = (fc3 l[j])[i]? := fcs_at hj hi
      rw [← h9, List.getElem?_take, if_pos (by omega), Array.getElem?_toList] at h10
      rw [Nat.zero_add]
      simpa [World.cell?, h5] using h10
    exact ⟨key 0 (by omega), key 1 (by omega), key 2 (by omega)⟩
end Go.Proofs.YtlmdoiagjepmbaaGreatDoor.m11

/-
  Package seglog's named: the segments as a disk's names tell them.
-/
import Derived.Test.YteifkkceldlfnaaGreatDoorG6Pos
import Derived.Test.YteifkkceldlfnaaGreatDoorG6Srt
import Derived.Test.YteifkkceldlfnaaGreatDoorG6Open0
import Derived.Test.YteifkkceldlfnaaGreatDoorG6Col
namespace Go.Proofs.YteifkkceldlfnaaGreatDoor
open Go.RowKit Go.Shelf Go.Sort
open Go.Lib hiding intOf

/-- a segment that was just made out of its name -/
def segC (pre : ByteArray) (n : Nat) : Obj := .cells #[.string (nam pre n), .int .u64 (n : Int), .int .i64 0, .slice none 0 0] 113 (0, 0)
structure Nw (w : World) (pre : ByteArray) (lo : Nat) (v : Sv) : Prop where
  hd : w.heap[v.g]? = some (segC pre v.sg.first)
  sg : v.sg = ⟨v.sg.first, [], 0⟩
  rv : v.rv = .slice none 0 0
  lo : lo ≤ v.g
structure Nd (w1 wr : World) (pre : ByteArray) (ns : List ByteArray) (i : Nat) (vs : List Sv) (vf : Value) : Prop where
  row : wr.ownsRow w1.heap.size 83 1 vf vs.length (vs.map ptr)
  new : ∀ v ∈ vs, Nw wr pre w1.heap.size v
  ne : vs.Pairwise (fun a b => a.g ≠ b.g ∧ a.sg.first ≠ b.sg.first)
  iff : ∀ n, (∃ v ∈ vs, v.sg.first = n) ↔ 1 ≤ n ∧ n ≤ 1099511627777 ∧ nam pre n ∈ ns.take i
  bw : Below w1.heap.size w1 wr
  le : vs.length ≤ i
section
variable {w1 wr w2 w5 : World} {pre : ByteArray} {ns : List ByteArray} {i n : Nat} {vs : List Sv} {vf v' : Value}
theorem Nw.ch {w w' : World} {lo : Nat} {v : Sv} {Y : Nat → Prop} (h : Nw w pre lo v) (hc : Ch Y w w') (hY : ¬ Y v.g) : Nw w' pre lo v := ⟨hc.obj h.hd hY, h.sg, h.rv, h.lo⟩
theorem Nd.far (h : Nd w1 wr pre ns i vs vf) {v : Sv} (hv : v ∈ vs) : v.g < wr.heap.size ∧ vf.ownBlock ≠ some v.g := by
  have hn := (h.new v hv).hd
  refine ⟨(Array.getElem?_eq_some_iff.1 hn).1, fun e => ?_⟩
  obtain ⟨_, cur, h1⟩ := row_obj h.row e
  rw [h1] at hn
  unfold segC at hn
  cases hn
theorem Nd.below (h : Nd w1 wr pre ns i vs vf) (hb : Below wr.heap.size wr w2) : Nd w1 w2 pre ns i vs vf :=
  ⟨(show Ch (fun _ => False) wr w2 from Ch.of_below hb).row h.row (fun _ _ => id), fun v hv => (h.new v hv).ch (Y := fun _ => False) (Ch.of_below hb) id, h.ne, h.iff, h.bw.trans (hb.mono h.bw.size), h.le⟩
theorem Nd.skip (h : Nd w1 wr pre ns i vs vf) (hi : i < ns.length) (hn : ¬ ∃ n : Nat, 1 ≤ n ∧ n ≤ 1099511627777 ∧ ns[i] = nam pre n) : Nd w1 wr pre ns (i + 1) vs vf := by
  refine ⟨h.row, h.new, h.ne, fun m => ?_, h.bw, by have := h.le; omega⟩
  rw [h.iff m, List.take_succ_eq_append_getElem hi, List.mem_append, List.mem_singleton]
  constructor
  · rintro ⟨h1, h2, h3⟩; exact ⟨h1, h2, .inl h3⟩
  · rintro ⟨h1, h2, h3 | h3⟩
    · exact ⟨h1, h2, h3⟩
    · exact absurd ⟨m, h1, h2, h3.symm⟩ hn
theorem Nd.add (h : Nd w1 wr pre ns i vs vf) (hi : i < ns.length) (hd : ns.Nodup) (h1 : 1 ≤ n) (h2 : n ≤ 1099511627777) (h3 : ns[i] = nam pre n) {o : Obj} (hg : ((wr.alloc (segC pre n)).alloc o).grownBy w5 vf.ownBlock) (hr : w5.ownsRow w1.heap.size 83 1 v' (vs.length + 1) (vs.map ptr ++ [.pointer (some ⟨wr.heap.size, 0, none⟩)])) :
    Nd w1 w5 pre ns (i + 1) (vs ++ [⟨⟨n, [], 0⟩, wr.heap.size, .slice none 0 0⟩]) v' := by
  have hz := h.bw.size
  have c0 : Ch (fun _ => False) wr (wr.alloc (segC pre n)) := (Ch.refl _ wr).alloc _
  have c1 : Ch (fun k => vf.ownBlock = some k) (wr.alloc (segC pre n)) w5 := ((Ch.refl _ _).alloc o).trans (Ch.of_grown hg (fun k e _ => e))
  have hnew : w5.heap[wr.heap.size]? = some (segC pre n) := c1.obj (heap_alloc_new wr _) (fun e => by
    obtain ⟨_, cur, q⟩ := row_obj h.row e
    have := (Array.getElem?_eq_some_iff.1 q).1
    omega)
  have hnt : nam pre n ∉ ns.take i := fun hm => by
    obtain ⟨j, hj, e⟩ := List.getElem_of_mem hm
    rw [List.length_take] at hj
    rw [List.getElem_take] at e
    exact (List.pairwise_iff_getElem.1 hd j i (by omega) hi (by omega)) (by rw [e, h3])
  refine ⟨?_, fun v hv => ?_, ?_, fun m => ?_, ?_, by rw [List.length_append]; have := h.le; simp; omega⟩
  · rw [List.length_append, List.map_append]; exact hr
  · rcases List.mem_append.1 hv with hv | hv
    · exact ((h.new v hv).ch c0 id).ch c1 (h.far hv).2
    · rw [List.mem_singleton.1 hv]
      exact ⟨hnew, rfl, rfl, by simp only; omega⟩
  · rw [List.pairwise_append]
    refine ⟨h.ne, List.pairwise_singleton _ _, fun a ha b hb => ?_⟩
    rw [List.mem_singleton.1 hb]
    refine ⟨by have := (h.far ha).1; simp only; omega, fun e => ?_⟩
    exact hnt ((h.iff n).1 ⟨a, ha, e⟩).2.2
  · rw [List.take_succ_eq_append_getElem hi, List.mem_append, List.mem_singleton]
    constructor
    · rintro ⟨v, hv, rfl⟩
      rcases List.mem_append.1 hv with hv | hv
      · obtain ⟨k1, k2, k3⟩ := (h.iff v.sg.first).1 ⟨v, hv, rfl⟩
        exact ⟨k1, k2, .inl k3⟩
      · rw [List.mem_singleton.1 hv]
        exact ⟨h1, h2, .inr h3.symm⟩
    · rintro ⟨k1, k2, k3 | k3⟩
      · obtain ⟨v, hv, e⟩ := (h.iff m).2 ⟨k1, k2, k3⟩
        exact ⟨v, List.mem_append_left _ hv, e⟩
      · rw [h3] at k3
        exact ⟨_, List.mem_append_right _ (List.mem_singleton.2 rfl), (nam_inj k3).symm⟩
  · exact h.bw.trans ((c0.below hz (fun _ _ e => e.elim)).trans (c1.below (by simp; omega) (fun k hk e => by have := (row_obj h.row e).1; omega)))
end
/-- named's answer: the segments whose files are there, by rising positions -/
def NamR (w : World) (pre : ByteArray) (ns : List ByteArray) (e : Ending) (w' : World) : Prop :=
  ∃ (vs : List Sv) (sl : Value), e = .returned sl ∧ w'.ownsRow w.heap.size 83 1 sl vs.length (vs.map ptr) ∧ (∀ v ∈ vs, Nw w' pre w.heap.size v) ∧ vs.Pairwise (fun a b => a.g ≠ b.g) ∧ vs.Pairwise (fun a b => a.sg.first < b.sg.first) ∧ (∀ n, (∃ v ∈ vs, v.sg.first = n) ↔ 1 ≤ n ∧ n ≤ 1099511627777 ∧ nam pre n ∈ ns) ∧ vs.length ≤ ns.length

set_option maxHeartbeats 4000000 in
set_option maxRecDepth 100000 in
theorem named_any {w : World} {B d : Nat} {st : Ab} (h : St w B d st) (pre : ByteArray) (hp : pre.size ≤ 8) (hv : Gv B w) (he : Ev B w) (hB : B ≤ w.heap.size) (hd : (st.1.map (·.1)).Nodup) (hz : ∀ k ∈ st.1.map (·.1), k.size ≤ 281474976710656) (hl : st.1.length ≤ 1099511627776) :
    Calls Tryz.prog 68 #[.pointer (some ⟨d, 0, none⟩), .string pre] w fun e w' => NamR w pre (st.1.map (·.1)) e w' ∧ Below w.heap.size w w' := by
  obtain ⟨i0, hi0, hz0, hz1, hz2⟩ := info_parts infoPtr
  have hN := sNames h
  have hns : nms st.1 = (st.1.map (·.1)).map (fun k => .string k) := by unfold nms; rw [List.map_map]; rfl
  have hnl : st.1.length = (st.1.map (·.1)).length := by simp
  rw [hns, hnl] at hN
  rw [hnl] at hl
  generalize st.1.map (·.1) = ns at *
  have HV : Hid (Gv B w ∧ Ev B w) := ⟨hv, he⟩
  clear h hv he hns hnl
  go_enter Tryz.func68, Tryz.ntmps68
  go_wp2_with (go_at_call 41; refine hN.mono ?_; rintro e w1 ⟨v, rfl, hr, hb⟩; obtain ⟨a, c, rfl, -⟩ := row_slice hr; have HB : Hid (Below w.heap.size w w1) := hb; have HR : Hid (w1.ownsRow w.heap.size 9 1 (.slice a ns.length c) ns.length (ns.map fun k => .string k)) := hr; clear hr hb)
  have H0 : Hid (Nd w1 w1 pre ns 0 [] (.slice none 0 0)) := ⟨World.ownsRow_nil _ _ _ _, fun v hv => (by cases hv), List.Pairwise.nil, fun n => ⟨fun ⟨v, hv, _⟩ => (by cases hv), fun ⟨_, _, h⟩ => (by simp at h)⟩, Below.refl _ _, Nat.le_refl _⟩
  go_loopw [5, 13] (fun vf vi wr => ∃ (i : Nat) (vs : List Sv), vi = .int .i64 (i : Int) ∧ i ≤ ns.length ∧ Hid (Nd w1 wr pre ns i vs vf)) (fun _ vi _ => ns.length - (intOf vi).toNat)
  case atStart => exact ⟨0, [], rfl, Nat.zero_le _, H0⟩
  case round =>
    obtain ⟨i, vs, rfl, hi, HD⟩ := hrel
    clear H0
    obtain ⟨va, vc, rfl, -⟩ := row_slice HD.out.row
    have hvl := HD.out.le
    by_cases hil : i < ns.length
    · have hil' : (i : Int) < (ns.length : Int) := by omega
      have hi0' : (0 : Int) ≤ (i : Int) := by omega
      obtain ⟨g, rfl⟩ : ∃ g, a = some ⟨g, 0, none⟩ := by
        rcases HR.out.2 with ⟨e, h0⟩ | ⟨g', cap', cur, e, -⟩
        · omega
        · cases e; exact ⟨g', rfl⟩
      have m0 : wr.cell? ⟨g, i, none⟩ = some (.string ns[i]) := by
        refine (HD.out.bw.cell (p := ⟨g, i, none⟩) ?_).trans (row_cell HR.out (by simp [hil]))
        obtain ⟨_, cur, hx⟩ := row_obj HR.out (g := g) rfl
        exact (Array.getElem?_eq_some_iff.1 hx).1
      have hbw : Below B w wr := (HB.out.mono hB).trans (HD.out.bw.mono (by have := HB.out.size; omega))
      have hP := positionOf_any (B := B) pre ns[i] hp (hz _ (List.getElem_mem hil)) wr (HV.out.1.below hbw) (HV.out.2.below hbw) (by have := hbw.size; omega)
      have HDB : Hid (∀ W, Below wr.heap.size wr W → Nd w1 W pre ns i vs (.slice va vs.length vc)) := fun W hb => HD.out.below hb
      have HAD : Hid (∀ (n : Nat) (W : World), Nd w1 W pre ns i vs (.slice va vs.length vc) → 1 ≤ n → n ≤ 1099511627777 → ns[i] = nam pre n → ∀ (o : Obj) (w5 : World) (v' : Value), ((W.alloc (segC pre n)).alloc o).grownBy w5 (Value.slice va vs.length vc).ownBlock → w5.ownsRow w1.heap.size 83 1 v' (vs.length + 1) (vs.map ptr ++ [.pointer (some ⟨W.heap.size, 0, none⟩)]) → Nd w1 w5 pre ns (i + 1) (vs ++ [⟨⟨n, [], 0⟩, W.heap.size, .slice none 0 0⟩]) v') := fun n W h h1 h2 h3 o w5 v' hg hr => h.add (o := o) (w5 := w5) (v' := v') hil hd h1 h2 h3 hg hr
      have HSK : Hid ((¬ ∃ n : Nat, 1 ≤ n ∧ n ≤ 1099511627777 ∧ ns[i] = nam pre n) → ∀ W, Nd w1 W pre ns i vs (.slice va vs.length vc) → Nd w1 W pre ns (i + 1) vs (.slice va vs.length vc)) := fun hn W h => h.skip hil hn
      obtain ⟨nm, HNM⟩ : ∃ nm, Hid (ns[i] = nm) := ⟨_, show _ = _ from rfl⟩
      rw [HNM.out] at m0 hP HAD HSK
      clear hbw
      go_wp2_with fail
      refine hP.mono ?_
      rintro e w2 ⟨⟨n, h1, h2, h3, rfl⟩ | ⟨hn, rfl⟩, b2⟩
      · have N2 : Hid (Nd w1 w2 pre ns i vs (.slice va vs.length vc)) := HDB.out w2 b2
        have HA2 : Hid _ := HAD.out n w2 N2.out h1 h2 h3
        have HSG : Hid (Obj.cells #[.string nm, .int .u64 (n : Int), .int .i64 0, .slice none 0 0] 113 (0, 0) = segC pre n) := by show _ = _; rw [h3]; rfl
        have hw2 := N2.out.bw.size
        clear hP HAD HSK h3 b2
        go_wp2_with (at_builtin; rw [HSG.out]; refine wpList_append_own _ rfl _ _ 77 rfl w1.heap.size 83 i0 _ 1 8 Tryz.underlying77 hi0 hz0 hz1 hz2 rfl (by decide) (.slice va vs.length vc) vs.length (vs.map ptr) rfl ((N2.out.row.alloc _).alloc _) ⟨w2.heap.size + 1, 0, none⟩ 1 1 [.pointer (some ⟨w2.heap.size, 0, none⟩)] rfl rfl (new_one _ _ (by simp) _ _) (by simp [Value.oneCell']) (by unfold maxLen; omega) (by omega) (by simp; omega) ?_; intro v5 w5 hown5 hgrow5 _; have HF : Hid _ := HA2.out _ w5 v5 hgrow5 hown5; clear hown5 hgrow5)
        go_roundw
        case rel => exact ⟨i + 1, _, by simp, by omega, HF⟩
        case measure =>
          simp [intOf]
          omega
      · have N2 : Hid (Nd w1 w2 pre ns (i + 1) vs (.slice va vs.length vc)) := HSK.out hn w2 (HDB.out w2 b2)
        clear hP HAD HSK hn b2
        go_wp2
        go_roundw
        case rel => exact ⟨i + 1, vs, by simp, by omega, N2⟩
        case measure =>
          simp [intOf]
          omega
    · have hil' : ¬ (i : Int) < (ns.length : Int) := by omega
      obtain rfl : i = ns.length := by omega
      have HFN : Hid (∀ (w3 : World) (vs' : List Sv), vs'.Perm vs → vs'.Pairwise (fun a b => a.sg.first ≤ b.sg.first) → w3.ownsRow w1.heap.size 83 1 (.slice va vs.length vc) vs.length (vs'.map ptr) → Ch (fun k => (Value.slice va vs.length vc).ownBlock = some k) wr w3 → NamR w pre ns (.returned (.slice va vs.length vc)) w3 ∧ Below w.heap.size w w3) := fun w3 vs' hp hs hr hc => by
        have hN := HD.out
        have hpl := hp.length_eq
        have hw1 := HB.out.size
        have hne' := (hp.pairwise_iff (R := fun a b : Sv => a.g ≠ b.g ∧ a.sg.first ≠ b.sg.first) (fun h => ⟨fun e => h.1 e.symm, fun e => h.2 e.symm⟩)).2 hN.ne
        refine ⟨⟨vs', _, rfl, ?_, fun v hv => ?_, hne'.imp (fun h => h.1), ?_, fun n => ?_, by rw [hpl]; exact hN.le⟩, ?_⟩
        · rw [hpl]; exact row_low hr hw1
        · have hv' := hp.mem_iff.1 hv
          have := (hN.new v hv').ch hc (hN.far hv').2
          exact ⟨this.hd, this.sg, this.rv, by have := this.lo; omega⟩
        · exact (hs.and hne').imp (fun h => by have := h.1; have := h.2.2; omega)
        · have := hN.iff n
          rw [List.take_length] at this
          rw [← this]
          exact ⟨fun ⟨v, hv, e⟩ => ⟨v, hp.mem_iff.1 hv, e⟩, fun ⟨v, hv, e⟩ => ⟨v, hp.mem_iff.2 hv, e⟩⟩
        · exact (bel_of HB.out hN.bw (Nat.le_refl _)).trans (hc.below (by have := hN.bw.size; omega) (fun k hk e => by have := (row_obj hN.row e).1; omega))
      by_cases hv0 : vs = []
      · subst hv0
        have HE : Hid _ := HFN.out wr [] List.Perm.nil List.Pairwise.nil HD.out.row (Ch.refl _ wr)
        have hS := sort_none va vc (.func (.func 99) #[] #[])
        clear HFN
        go_wp2_with (go_at_call 98; refine (hS _).mono ?_; rintro e w2 ⟨rfl, hw2⟩; rw [hw2]; clear hw2)
        go_ret
        exact HE.out
      · obtain ⟨g, rfl⟩ : ∃ g, va = some ⟨g, 0, none⟩ := by
          rcases HD.out.row.2 with ⟨e, h0⟩ | ⟨g', cap', cur, e, -⟩
          · exact absurd (List.eq_nil_of_length_eq_zero h0) hv0
          · cases e; exact ⟨g', rfl⟩
        have hS := sortSegs hv0 HD.out.row (fun v hv => by
          have hn := (HD.out.new v hv).hd
          unfold segC at hn
          refine ⟨by simp [World.cell?, hn], (HD.out.far hv).1, fun e => (HD.out.far hv).2 (by rw [e]; rfl)⟩) (by omega)
        go_wp2_with (go_at_call 98; refine hS.mono ?_; rintro e w3 ⟨rfl, vs', q1, q2, q3, q4⟩; have HE : Hid _ := HFN.out w3 vs' q1 q2 q3 (q4.mono (fun k _ e => by rw [e]; rfl)); clear q1 q2 q3 q4)
        go_ret
        exact HE.out
end Go.Proofs.YteifkkceldlfnaaGreatDoor

/-
  Package run's read: bytes that are a run, or not.
-/
import Derived.Test.YtiaeicfmdnmeeaaH7Cells
import Derived.Test.YtiaeicfmdnmeeaaH7St
namespace Go.Proofs.Ytiaeicfmdnmeeaa
open Go.RowKit Go.Shelf Go.Sort
open Go.Lib hiding intOf

theorem las_append (a : Option (List UInt8)) (l m : List R7) : las a (l ++ m) = las (las a l) m := by
  unfold las
  cases m with
  | nil => simp
  | cons y t =>
    rw [List.getLast?_append, List.getLast?_eq_some_getLast (List.cons_ne_nil y t)]
    rfl
/-- a frame that is taken has one form -/
theorem tak_one {l s : List UInt8} {k : UInt8} {n : Nat} (h : tak l = (k, s, n, 0)) : l = frm k s ++ l.drop n ∧ n = (frm k s).length ∧ s.length ≤ 65536 := by
  unfold tak at h
  by_cases h6 : l.length < 6
  · rw [if_pos h6] at h; simp at h
  · rw [if_neg h6] at h
    obtain ⟨s', rest, e, hx⟩ : ∃ s' rest e, tex 65536 (l.drop 5) = (s', rest, e) := ⟨_, _, _, rfl⟩
    rw [hx] at h
    simp only at h
    by_cases he : e = 0
    · subst he
      rw [if_neg (by simp)] at h
      by_cases hq : l.take 4 = four (sumOf ((l.drop 4).take (l.length - 4 - rest.length)))
      · rw [if_pos hq] at h
        simp only [Prod.mk.injEq, and_true] at h
        obtain ⟨rfl, rfl, rfl⟩ := h
        obtain ⟨e1, e2⟩ := tex_one hx
        have hsl : s'.length ≤ 65536 := by rcases e2 with e2 | e2; · omega
                                           · rw [e2]; simp
        obtain ⟨c, hc⟩ : ∃ c, l.getD 4 0 = c := ⟨_, rfl⟩
        have h5 : l.drop 4 = c :: l.drop 5 := by
          rw [← hc, show l.getD 4 0 = l[4] by simp [List.getD, show 4 < l.length by omega]]
          exact List.drop_eq_getElem_cons (by omega)
        have hlen : l.length = 5 + (txt s').length + rest.length := by
          have := congrArg List.length e1
          rw [List.length_drop, List.length_append] at this
          omega
        rw [h5, e1, show l.length - 4 - rest.length = (txt s').length + 1 by omega, List.take_succ_cons, List.take_left' rfl] at hq
        have hfl : (frm c s').length = 5 + (txt s').length := frm_length _ _
        have hl : l = frm c s' ++ rest := by
          unfold frm
          rw [← hq, List.append_assoc, List.cons_append, ← e1, ← h5, List.take_append_drop]
        rw [hc]
        refine ⟨?_, by rw [hfl]; omega, hsl⟩
        rw [show l.length - rest.length = (frm c s').length by rw [hfl]; omega]
        have hd : l.drop (frm c s').length = rest := (congrArg (List.drop (frm c s').length) hl).trans (List.drop_left' rfl)
        rw [hd]
        exact hl
      · rw [if_neg hq] at h; simp at h
    · rw [if_pos he] at h
      simp only [Prod.mk.injEq] at h
      exact absurd h.2.2.2 he
/-- what stands in the loop -/
structure Rv (w wr : World) (b : List UInt8) (bs : List (List R7)) (rest : List UInt8) (v5 v6 : Value) : Prop where
  eq : b = fbs bs ++ rest
  gb : Gbs bs
  fl : flt none bs.flatten = 0
  rc : wr.ownsRow (w.heap.size + 2) 76 3 v5 bs.flatten.length (hcs bs.flatten)
  rs : wr.ownsRow (w.heap.size + 2) 97 2 v6 bs.length (spc (bs.map spn))
  ck : Ck wr w.heap.size (w.heap.size + 1) (las none bs.flatten)
  bw : Below w.heap.size w wr
  sz : w.heap.size + 2 ≤ wr.heap.size
/-- no block begins the rest: only the index may stand there -/
theorem Rv.only {w wr : World} {b rest : List UInt8} {bs : List (List R7)} {v5 v6 : Value} (h : Rv w wr b bs rest v5 v6) (hn : (tak rest).2.2.2 ≠ 0 ∨ (tak rest).1 ≠ 2) {bs' : List (List R7)} (hr : Rn b bs') : bs' = bs ∧ rest = tl bs := by
  have e : fbs bs ++ rest = fbs bs' ++ (frm 3 (ix bs') ++ four (frm 3 (ix bs')).length) := by rw [← h.eq, hr.1]; rfl
  obtain ⟨q, e1, e2⟩ := head_run bs bs' h.gb hr.2.1 hr.2.2.2 e
  cases q with
  | nil =>
    rw [List.append_nil] at e1
    subst e1
    exact ⟨rfl, e2⟩
  | cons y z =>
    rw [fbs_cons, List.append_assoc] at e2
    have := fb_tak (hr.2.1 y (by rw [e1]; simp)) (fbs z ++ (frm 3 (ix bs') ++ four (frm 3 (ix bs')).length))
    rw [← e2] at this
    rw [this] at hn
    rcases hn with hn | hn <;> exact absurd rfl hn
theorem Rv.bad {w wr : World} {b rest load : List UInt8} {bs : List (List R7)} {v5 v6 : Value} {n : Nat} (h : Rv w wr b bs rest v5 v6) (ht : tak rest = (2, load, n, 0)) (hn : ¬ ∃ xs, Tk (las none bs.flatten) load xs) : ¬ ∃ bs', Rn b bs' := by
  rintro ⟨bs', hr⟩
  have e : fbs bs ++ rest = fbs bs' ++ (frm 3 (ix bs') ++ four (frm 3 (ix bs')).length) := by rw [← h.eq, hr.1]; rfl
  obtain ⟨q, e1, e2⟩ := head_run bs bs' h.gb hr.2.1 hr.2.2.2 e
  cases q with
  | nil =>
    have e3 : rest = frm 3 (ix bs') ++ four (frm 3 (ix bs')).length := e2
    rw [e3, tak_back 3 _ _ hr.2.2.2] at ht
    simp only [Prod.mk.injEq] at ht
    exact absurd ht.1 (by decide)
  | cons y z =>
    rw [fbs_cons, List.append_assoc] at e2
    have hy := hr.2.1 y (by rw [e1]; simp)
    have := fb_tak hy (fbs z ++ (frm 3 (ix bs') ++ four (frm 3 (ix bs')).length))
    rw [← e2, ht] at this
    simp only [Prod.mk.injEq, true_and, and_true] at this
    refine hn ⟨y, hy.1, this.1, ?_⟩
    have hf := hr.2.2.1
    rw [e1, List.flatten_append, List.flatten_cons] at hf
    exact (flt_left (flt_left hf).2).1
theorem key1_head {xs : List R7} (h : 0 < xs.length) : key1 xs = xs[0].1 := by
  cases xs with
  | nil => simp at h
  | cons x t => rfl
theorem flat_len {bs : List (List R7)} : bs.flatten.length ≤ (fbs bs).length := by
  induction bs with
  | nil => simp
  | cons y t ih =>
    have : ∀ q : List R7, q.length ≤ (ld q).length := fun q => by
      induction q with
      | nil => simp
      | cons y t ih => have := rb_pos y; rw [ld_cons, List.length_append, List.length_cons]; omega
    have h1 := this y
    have h2 := fb_length y
    have h3 := txt_pos (ld y)
    rw [List.flatten_cons, List.length_append, fbs_cons, List.length_append]
    omega
theorem Rv.step {w wr w1 w2 : World} {b rest load : List UInt8} {bs : List (List R7)} {v5 v6 vm : Value} {n : Nat} {xs : List R7} (h : Rv w wr b bs rest v5 v6) (ht : tak rest = (2, load, n, 0)) (hb1 : Below wr.heap.size wr w1) (hc2 : Ch (fun k => k = w.heap.size ∨ k = w.heap.size + 1) w1 w2) (hT : Tk (las none bs.flatten) load xs) (hm : w2.ownsRow w1.heap.size 76 3 vm xs.length (hcs xs)) (hk : Ck w2 w.heap.size (w.heap.size + 1) (las (las none bs.flatten) xs)) :
    w2.ownsRow (w.heap.size + 2) 76 3 v5 bs.flatten.length (hcs bs.flatten) ∧ w.heap.size + 2 ≤ w2.heap.size ∧ n = (fb xs).length ∧
    ∀ (o : Obj) (w3 w4 : World) (v5' v6' : Value), w2.grownBy w3 v5.ownBlock → w3.ownsRow (w.heap.size + 2) 76 3 v5' (bs.flatten.length + xs.length) (hcs bs.flatten ++ hcs xs) →
      w3.ownsRow (w.heap.size + 2) 97 2 v6 bs.length (spc (bs.map spn)) ∧ (∀ g, vm.ownBlock = some g → w3.heap[g]? = w2.heap[g]?) ∧ w.heap.size + 2 ≤ w3.heap.size ∧
      ((w3.alloc o).grownBy w4 v6.ownBlock → w4.ownsRow (w.heap.size + 2) 97 2 v6' (bs.length + 1) (spc (bs.map spn) ++ [.int .i64 ((fb xs).length : Int), .string (S (key1 xs))]) → Rv w w4 b (bs ++ [xs]) (rest.drop n) v5' v6') := by
  obtain ⟨e1, e2, e3⟩ := tak_one ht
  have hs := h.sz
  have hb1s := hb1.size
  have hc2s := hc2.size
  have hld : load = ld xs := hT.2.1
  have hnf : n = (fb xs).length := by rw [e2, hld]; rfl
  have rc1 := (show Ch (fun _ => False) wr w1 from Ch.of_below hb1).row h.rc (fun _ _ => id)
  have rs1 := (show Ch (fun _ => False) wr w1 from Ch.of_below hb1).row h.rs (fun _ _ => id)
  have rc2 := hc2.row rc1 (fun k hk e => by have := (row_obj rc1 hk).1; omega)
  have rs2 := hc2.row rs1 (fun k hk e => by have := (row_obj rs1 hk).1; omega)
  refine ⟨rc2, by omega, hnf, ?_⟩
  intro o w3 w4 v5' v6' hg3 hr3
  have c3 : Ch (fun k => v5.ownBlock = some k) w2 w3 := Ch.of_grown hg3 (fun k e _ => e)
  have rs3 := c3.row rs2 (fun k hk e => row_ne rc2 rs2 (by decide) e hk rfl)
  have c3s := c3.size
  refine ⟨rs3, fun g hg => c3.block g (row_far hm hg) (fun e => ?_), by omega, ?_⟩
  · have := row_far rc1 e
    have := (row_obj hm hg).1
    omega
  · intro hg4 hr4
    have c4 : Ch (fun k => v6.ownBlock = some k) w3 w4 := ((Ch.refl _ w3).alloc o).trans (Ch.of_grown hg4 (fun k e _ => e))
    have hgx : Gb xs := ⟨hT.1, by rw [← hld]; exact e3, flt_may hT.2.2⟩
    refine ⟨?_, ?_, ?_, ?_, ?_, ?_, ?_, by have := c4.size; omega⟩
    · rw [fbs_snoc, List.append_assoc]
      have : fb xs ++ rest.drop n = rest := by unfold fb; rw [← hld]; exact e1.symm
      rw [this]; exact h.eq
    · intro y hy
      rcases List.mem_append.1 hy with hy | hy
      · exact h.gb y hy
      · obtain rfl : y = xs := by simpa using hy
        exact hgx
    · rw [List.flatten_append, flt_ok h.fl]; simpa using hT.2.2
    · have e : (bs ++ [xs]).flatten = bs.flatten ++ xs := by simp
      rw [e, List.length_append, hcs_append]
      exact c4.row hr3 (fun k hk e => row_ne hr3 rs3 (by decide) hk e rfl)
    · rw [List.map_append, List.length_append]
      exact (spc_snoc (bs.map spn) (spn xs)) ▸ hr4
    · have e : (bs ++ [xs]).flatten = bs.flatten ++ xs := by simp
      rw [e, las_append]
      refine (hk.ch c3 ?_ ?_).ch c4 ?_ ?_
      · intro e; have := (row_obj rc2 e).1; omega
      · intro e; have := (row_obj rc2 e).1; omega
      · intro e; have := (row_obj rs3 e).1; omega
      · intro e; have := (row_obj rs3 e).1; omega
    · have b12 : Below w.heap.size w w2 := (h.bw.trans (hb1.mono h.bw.size)).trans (hc2.below (by omega) (fun k hk e => by omega))
      exact (b12.trans (c3.below (by omega) (fun k hk e => by have := (row_obj rc2 e).1; omega))).trans (c4.below (by omega) (fun k hk e => by have := (row_obj rs3 e).1; omega))

set_option maxHeartbeats 4000000 in
set_option maxRecDepth 100000 in
theorem read_any (b : List UInt8) (hb : b.length ≤ 1048576) (w : World) :
    Calls Try.prog 22 #[.string (S b)] w fun e w' => Below w.heap.size w w' ∧ ((∃ bs v, Rn b bs ∧ e = .returned (.tuple #[v, .int .i64 (bs.length : Int), .bool true]) ∧ w'.ownsRow w.heap.size 76 3 v bs.flatten.length (hcs bs.flatten)) ∨ ((¬ ∃ bs, Rn b bs) ∧ e = .returned (.tuple #[.slice none 0 0, .int .i64 0, .bool false]))) := by
  obtain ⟨i0, hi0, hz0, hz1, hz2⟩ := info_parts infoChange
  obtain ⟨j0, hj0, hy0, hy1, hy2⟩ := info_parts infoSpan
  go_enter Try.func22, Try.ntmps22
  go_wp2_with fail
  refine (checks_any w).mono ?_
  rintro e w1 ⟨rfl, hck, hb1, hs1⟩
  have H0 : Hid (Rv w w1 b [] b (.slice none 0 0) (.slice none 0 0)) := ⟨rfl, fun y hy => (by cases hy), rfl, World.ownsRow_nil _ _ _ _, World.ownsRow_nil _ _ _ _, hck, hb1, by omega⟩
  clear hck hb1 hs1
  unfold ckv
  go_wp2_with fail
  go_loopw [5, 6, 8] (fun v5 v6 v8 wr => ∃ bs rest, v8 = .string (S rest) ∧ Hid (Rv w wr b bs rest v5 v6)) (fun _ _ v8 _ => match v8 with | .string s => s.size | _ => 0)
  case atStart => exact ⟨[], b, rfl, H0⟩
  case round =>
    obtain ⟨bs, rest, rfl, HR⟩ := hrel
    obtain ⟨tot, HTT⟩ : ∃ tot, Hid (bs.flatten.length = tot) := ⟨_, show _ = _ from rfl⟩
    obtain ⟨a5, c5, h5, -⟩ := row_slice HR.out.rc
    rw [HTT.out] at h5
    subst h5
    obtain ⟨a6, c6, rfl, -⟩ := row_slice HR.out.rs
    have hlen : (fbs bs).length + rest.length ≤ 1048576 := by have := congrArg List.length HR.out.eq; rw [List.length_append] at this; omega
    have hfc := fbs_count bs
    have hfl := flat_len (bs := bs)
    rw [HTT.out] at hfl
    have hsr := S_size rest
    have HTK : ∀ w, _ := fun w => Take_any rest (by omega) w
    obtain ⟨kd, load, n, er, ht⟩ : ∃ kd load n er, tak rest = (kd, load, n, er) := ⟨_, _, _, _, rfl⟩
    rw [ht] at HTK
    unfold quad at HTK
    simp only at HTK
    by_cases hblk : er = 0 ∧ kd = 2
    · obtain ⟨rfl, rfl⟩ := hblk
      obtain ⟨e1, e2, e3⟩ := tak_one ht
      have hnl : n ≤ rest.length := by have := congrArg List.length e1; rw [List.length_append, ← e2] at this; omega
      have hn6 : 0 < n := by rw [e2, frm_length]; omega
      have hxd : (S rest).extract n rest.length = S (rest.drop n) := S_drop rest n
      have e22 : (((2 : UInt8).toNat : Nat) : Int) = 2 := rfl
      rw [e22] at HTK
      have HT : Hid (tak rest = (2, load, n, 0)) := ht
      have hni : (n : Int) ≤ (rest.length : Int) := by omega
      have hn0 : (0 : Int) ≤ (n : Int) := by omega
      have HTC : Hid (∀ w2, Below wr.heap.size wr w2 → Calls Try.prog 40 #[.string (S load), ckv w.heap.size (w.heap.size + 1)] w2 _) := fun w2 hb2 => takeCells_any (HR.out.ck.ch (X := fun _ => False) (Ch.of_below hb2) id id) load e3
      clear ht e1 e2
      go_wp2_with (first
        | (go_at_call 39; refine (HTK _).mono ?_; rintro e w2 ⟨rfl, hb2⟩; have htc := HTC.out w2 hb2; unfold ckv at htc; have HB2 : Hid (Below wr.heap.size wr w2) := hb2; clear hb2))
      refine htc.mono ?_
      clear htc
      rintro e w3 ⟨hc3, ⟨xs, vm, hT, rfl, hm, hk⟩ | ⟨hN, vm, rfl⟩⟩
      · have hx0 : 0 < xs.length := List.length_pos_iff.2 hT.1
        obtain ⟨r1, r2, r3, r4⟩ := HR.out.step HT.out HB2.out hc3 hT hm hk
        obtain ⟨gm, cm, hmv⟩ : ∃ g c, vm = .slice (some ⟨g, 0, none⟩) xs.length c := by
          rcases hm.2 with ⟨_, h0⟩ | ⟨g, cap', cur, e, -⟩
          · omega
          · exact ⟨g, cap', e⟩
        subst hmv
        have hxl : xs.length ≤ 65536 := by
          have : ∀ q : List R7, q.length ≤ (ld q).length := fun q => by
            induction q with
            | nil => simp
            | cons y t ih => have := rb_pos y; rw [ld_cons, List.length_append, List.length_cons]; omega
          have := this xs
          rw [← hT.2.1] at this; omega
        have kk := row_cell hm (hcs_get hx0).1
        rw [← key1_head hx0, Nat.zero_mul] at kk
        have hnews : ∀ j u, (hcs xs)[j]? = some u → w3.cell? ((⟨gm, 0, none⟩ : Addr).add j) = some u := fun j u hj => by rw [Addr.add_lit, Nat.zero_add]; exact row_cell hm hj
        rw [HTT.out] at r1
        have R1 : Hid _ := r1
        have R4 : Hid _ := r4
        have HNW : Hid _ := hnews
        have gml : gm < w3.heap.size := row_far hm rfl
        have hxi : (0 : Int) < (xs.length : Int) := by omega
        rw [r3] at hxd hni hn0 ⊢
        obtain ⟨k1, HK1⟩ : ∃ k1, Hid (key1 xs = k1) := ⟨_, show _ = _ from rfl⟩
        rw [HK1.out] at kk
        obtain ⟨n1, HN1⟩ : ∃ n1, Hid ((fb xs).length = n1) := ⟨_, show _ = _ from rfl⟩
        rw [HN1.out] at hxd hni hn0 ⊢
        clear r1 r4 hnews hT hm hk hc3
        go_wp2_with (first
          | (at_builtin; refine wpList_append_own _ rfl _ _ 57 rfl (w.heap.size + 2) 76 i0 _ 3 40 Try.underlying57 hi0 hz0 hz1 hz2 rfl (by decide) (.slice a5 tot c5) tot (hcs bs.flatten) rfl R1.out ⟨gm, 0, none⟩ xs.length cm (hcs xs) rfl (hcs_length xs) HNW.out (hcs_one xs) (by unfold maxLen; omega) (by omega) (by omega) ?_; intro v5 w5 hown5 hgrow5 _; have HF : Hid _ := (fun (o : Obj) (w6 : World) (v6' : Value) => R4.out o w5 w6 v5 v6' hgrow5 (by rw [HTT.out]; exact hown5)); have k5 := (World.cell?_of_block (a := ⟨gm, 0, none⟩) ((HF.out (.cells #[] 0) w5 v5).2.1 gm rfl)).trans kk; (have R6 : Hid (w5.ownsRow (w.heap.size + 2) 97 2 (.slice a6 bs.length c6) bs.length (spc (bs.map spn)) ∧ w.heap.size + 2 ≤ w5.heap.size) := ⟨(HF.out (.cells #[] 0) w5 v5).1, (HF.out (.cells #[] 0) w5 v5).2.2.1⟩); clear hown5 hgrow5 R1 R4 HNW kk)
          | (at_builtin; refine wpList_append_own _ rfl _ _ 78 rfl (w.heap.size + 2) 97 j0 _ 2 24 Try.underlying78 hj0 hy0 hy1 hy2 rfl (by decide) (.slice a6 bs.length c6) bs.length (spc (bs.map spn)) rfl (World.ownsRow.alloc R6.out.1 _) ⟨w5.heap.size, 0, none⟩ 1 1 [.int .i64 (n1 : Int), .string (S k1)] rfl rfl (two_new _ _ rfl _ _ _) (by simp [Value.oneCell']) (by unfold maxLen; omega) (by omega) (by simp; have := R6.out.2; omega) ?_; intro v6 w6 hown6 hgrow6 _; have HE : Hid _ := (HF.out _ w6 v6).2.2.2 hgrow6 (by rw [HK1.out, HN1.out]; exact hown6); clear hown6 hgrow6 R6))
        go_roundw
        case rel => exact ⟨bs ++ [xs], rest.drop n1, rfl, by rw [r3, HN1.out] at HE; exact HE⟩
        case measure =>
          simp only [S_size, List.length_drop]
          have := HN1.out
          have := r3
          omega
      · have HNN : Hid (¬ ∃ bs, Rn b bs) := HR.out.bad HT.out hN
        have HBB : Hid (Below w.heap.size w w3) := (HR.out.bw.trans (HB2.out.mono HR.out.bw.size)).trans (hc3.below (Nat.le_trans HR.out.bw.size HB2.out.size) (fun k hk e => by omega))
        clear hN hc3
        go_wp2
        refine bodyPost_ret (v := .tuple #[.slice none 0 0, .int .i64 0, .bool false]) (by simp [results, Try.results22, go_sem]) rfl ?_
        exact ⟨HBB.out, .inr ⟨HNN.out, rfl⟩⟩
    · have hn1 : (tak rest).2.2.2 ≠ 0 ∨ (tak rest).1 ≠ 2 := by
        rw [ht]
        by_cases he : er = 0
        · exact .inr (fun hk => hblk ⟨he, hk⟩)
        · exact .inl he
      have HON : Hid (∀ bs', Rn b bs' → bs' = bs ∧ rest = tl bs) := fun bs' hr => HR.out.only hn1 hr
      have hsp : ∀ s ∈ bs.map spn, s.1 ≤ 2000000 ∧ s.2.length ≤ 64 := by
        intro s hs
        obtain ⟨y, hy, rfl⟩ := List.mem_map.1 hs
        exact ⟨by have := fbs_mem hy; show (fb y).length ≤ _; omega, key1_may (HR.out.gb y hy).2.2⟩
      have HTL : ∀ (w2 : World), w2.ownsRow (w.heap.size + 2) 97 2 (.slice a6 bs.length c6) (bs.map spn).length (spc (bs.map spn)) → _ := fun w2 hr => tail_any hr (by rw [List.length_map]; omega) hsp
      rw [show tlr (bs.map spn) = if (ix bs).length ≤ 65536 then (tl bs, 0) else ([], 13) by unfold tlr; rw [il_spn]; rfl] at HTL
      have hRS : ∀ w2, Below wr.heap.size wr w2 → w2.ownsRow (w.heap.size + 2) 97 2 (.slice a6 bs.length c6) (bs.map spn).length (spc (bs.map spn)) := fun w2 hb => by
        rw [List.length_map]; exact (show Ch (fun _ => False) wr w2 from Ch.of_below hb).row HR.out.rs (fun _ _ => id)
      have HRS : Hid _ := hRS
      clear hRS
      have hbrk : ((er : Int) != 0) = true ∨ (er = 0 ∧ ((kd.toNat : Int) != 2) = true) := by
        by_cases he : er = 0
        · right
          refine ⟨he, ?_⟩
          rw [bne_iff_ne]
          intro hk
          exact hblk ⟨he, UInt8.toNat_inj.1 (by have : (2 : UInt8).toNat = 2 := rfl; omega)⟩
        · left; rw [bne_iff_ne]; omega
      clear ht hblk hn1 hsp
      by_cases hx : (ix bs).length ≤ 65536
      · rw [if_pos hx] at HTL
        by_cases hq : rest = tl bs
        · have HRN : Hid (Rn b bs) := ⟨by rw [HR.out.eq, hq]; rfl, HR.out.gb, HR.out.fl, hx⟩
          subst hq
          clear HON
          rcases hbrk with hk | ⟨rfl, hk⟩
          all_goals
            go_wp2_with (first
              | (go_at_call 39; refine (HTK _).mono ?_; rintro e w2 ⟨rfl, hb2⟩; have htl := HTL w2 (HRS.out w2 hb2); have HB2 : Hid (Below wr.heap.size wr w2) := hb2; clear hb2)
              | (go_at_call 41; refine htl.mono ?_; rintro e w3 ⟨rfl, hb3⟩; have HB3 : Hid (Below w2.heap.size w2 w3) := hb3; clear hb3 htl))
            refine bodyPost_ret (v := .tuple #[.slice a5 tot c5, .int .i64 (bs.length : Int), .bool true]) (by simp [results, Try.results22, go_sem]) rfl ?_
            have hB3 : Below wr.heap.size wr w3 := HB2.out.trans (HB3.out.mono HB2.out.size)
            refine ⟨HR.out.bw.trans (hB3.mono HR.out.bw.size), .inl ⟨bs, _, HRN.out, rfl, row_low (base := w.heap.size + 2) ?_ (by omega)⟩⟩
            exact (show Ch (fun _ => False) wr w3 from Ch.of_below hB3).row HR.out.rc (fun _ _ => id)
        · have HNN : Hid (¬ ∃ bs, Rn b bs) := fun ⟨bs', hr⟩ => hq (HON.out bs' hr).2
          have hcmp : ((S rest).toList == (S (tl bs)).toList) = false := by rw [S_toList, S_toList]; exact beq_eq_false_iff_ne.2 hq
          clear hq
          rcases hbrk with hk | ⟨rfl, hk⟩
          all_goals
            go_wp2_with (first
              | (go_at_call 39; refine (HTK _).mono ?_; rintro e w2 ⟨rfl, hb2⟩; have htl := HTL w2 (HRS.out w2 hb2); have HB2 : Hid (Below wr.heap.size wr w2) := hb2; clear hb2)
              | (go_at_call 41; refine htl.mono ?_; rintro e w3 ⟨rfl, hb3⟩; have HB3 : Hid (Below w2.heap.size w2 w3) := hb3; clear hb3 htl))
            refine bodyPost_ret (v := .tuple #[.slice none 0 0, .int .i64 0, .bool false]) (by simp [results, Try.results22, go_sem]) rfl ?_
            exact ⟨HR.out.bw.trans ((HB2.out.trans (HB3.out.mono HB2.out.size)).mono HR.out.bw.size), .inr ⟨HNN.out, rfl⟩⟩
      · rw [if_neg hx] at HTL
        have HNN : Hid (¬ ∃ bs, Rn b bs) := fun ⟨bs', hr⟩ => hx (by have := hr.2.2.2; rwa [(HON.out bs' hr).1] at this)
        clear hx
        rcases hbrk with hk | ⟨rfl, hk⟩
        all_goals
          go_wp2_with (first
            | (go_at_call 39; refine (HTK _).mono ?_; rintro e w2 ⟨rfl, hb2⟩; have htl := HTL w2 (HRS.out w2 hb2); have HB2 : Hid (Below wr.heap.size wr w2) := hb2; clear hb2)
            | (go_at_call 41; refine htl.mono ?_; rintro e w3 ⟨rfl, hb3⟩; have HB3 : Hid (Below w2.heap.size w2 w3) := hb3; clear hb3 htl))
          refine bodyPost_ret (v := .tuple #[.slice none 0 0, .int .i64 0, .bool false]) (by simp [results, Try.results22, go_sem]) rfl ?_
          exact ⟨HR.out.bw.trans ((HB2.out.trans (HB3.out.mono HB2.out.size)).mono HR.out.bw.size), .inr ⟨HNN.out, rfl⟩⟩
end Go.Proofs.Ytiaeicfmdnmeeaa

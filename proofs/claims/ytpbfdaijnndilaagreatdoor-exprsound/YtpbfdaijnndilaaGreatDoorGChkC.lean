/-
  Package expr: Check.
-/
import Derived.Test.YtpbfdaijnndilaaGreatDoorGChkD
namespace Go.Proofs.YtpbfdaijnndilaaGreatDoor.x10
open Go.RowKit Go.Shelf Go.Sort
open Go.Lib hiding intOf

/-- how a call that makes a number, or gives up, ends -/
def Ip (w : World) (r : Ot Int) (e : Ending) (w' : World) : Prop := match r with
  | .ok k => e = .returned (.int .i64 k) ∧ Below w.heap.size w w'
  | .no er a => e = .panicked (wrg er a) ∧ Below w.heap.size w w'
  | .out => True
/-- the kind of a part, by those of its own parts -/
def ckP (q : ByteArray → Option Int) (i : Nat) (p : P10) (a b : Int) : Ot Int :=
  if p.1 = 1 then .ok p.2.2.2.1
  else if p.1 = 2 then (match q (S p.2.2.2.2.2) with | some k => .ok k | none => .no 15 i)
  else if kof p.1 a b = 0 then .no 9 i else .ok (kof p.1 a b)

set_option maxHeartbeats 1000000 in
set_option maxRecDepth 100000 in
theorem ck1_any {w : World} {v : Value} {l : List P10} (hE : Es w v l) {i : Nat} (hi : i < l.length) (hop : 1 ≤ l[i].1 ∧ l[i].1 ≤ 18) (hz : (S l[i].2.2.2.2.2).size ≤ maxLen) (a b : Int) {bx bk mb n : Nat} {q : ByteArray → Option Int} (hK : Km w mb n q) (hx : w.cell? ⟨bx, 0, none⟩ = some v) (hk : w.cell? ⟨bk, 0, none⟩ = some (.map (some mb))) (hbx : bx < w.heap.size) (hbk : bk < w.heap.size) : Calls Tryz.prog 64 #[.int .i64 (i : Int), .int .i64 a, .int .i64 b, .pointer (some ⟨bx, 0, none⟩), .pointer (some ⟨bk, 0, none⟩)] w (Ip w (ckP q i l[i] a b)) := by
  obtain ⟨b0, off, cap, rfl, hbl, hcc⟩ := hE.at hi
  obtain ⟨c0, c1, c2, c3, c4, c5⟩ := hcc i hi
  obtain ⟨p, hp⟩ : ∃ p, l[i] = p := ⟨_, rfl⟩
  rw [hp] at c0 c1 c2 c3 c4 c5 hop hz
  rw [hp]
  clear hcc hE hp
  obtain ⟨p1, p2, p3, p4, p5, p6⟩ := p
  simp only at c0 c1 c2 c3 c4 c5 hop hz
  have CU1 := giveUp_any 15 (i : Int)
  have CU2 := giveUp_any 9 (i : Int)
  obtain ⟨W1, hW1⟩ : ∃ W1, w.alloc (.cells #[.int .i64 p1, .int .i64 p2, .int .i64 p3, .int .i64 p4, .int .i64 p5, .string (S p6)] 68) = W1 := ⟨_, rfl⟩
  have hb1 : Below w.heap.size w W1 := by rw [← hW1]; exact (Below.refl _ w).alloc (Nat.le_refl _) _
  have HB1 : Hid (Below w.heap.size w W1) := hb1
  have hlk := (hK.below hb1).look hz
  clear hz hK
  rcases (by omega : p1 = 1 ∨ p1 = 2 ∨ 3 ≤ p1) with rfl | rfl | h3
  · have z3 : W1.cell? ⟨w.heap.size, 3, none⟩ = some (.int .i64 p4) := by rw [← hW1]; exact World.cell?_alloc_new _ _ _ 3
    have z0 : W1.cell? ⟨w.heap.size, 0, none⟩ = some (.int .i64 1) := by rw [← hW1]; exact World.cell?_alloc_new _ _ _ 0
    have hlw : w.heap.size < W1.heap.size := by rw [← hW1]; simp
    have HW : Hid (_ = W1) := hW1
    show Calls _ _ _ _ (Ip w (.ok p4))
    clear hb1 hW1 CU1 CU2 hlk
    go_enter Tryz.func64, Tryz.ntmps64
    go_wp2
    rw [HW.out]
    all_goals (try go_wp2)
    all_goals go_ret
    exact ⟨rfl, HB1.out⟩
  · obtain ⟨r, hr⟩ : ∃ r, q (S p6) = r := ⟨_, rfl⟩
    have z0 : W1.cell? ⟨w.heap.size, 0, none⟩ = some (.int .i64 2) := by rw [← hW1]; exact World.cell?_alloc_new _ _ _ 0
    have z5 : W1.cell? ⟨w.heap.size, 5, none⟩ = some (.string (S p6)) := by rw [← hW1]; exact World.cell?_alloc_new _ _ _ 5
    have hlw : w.heap.size < W1.heap.size := by rw [← hW1]; simp
    have hk1 : W1.cell? ⟨bk, 0, none⟩ = some (.map (some mb)) := (hb1.cell (p := ⟨bk, 0, none⟩) hbk).trans hk
    have HW : Hid (_ = W1) := hW1
    cases r with
    | none =>
      have he : ckP q i (2, p2, p3, p4, p5, p6) a b = .no 15 i := by
        show (match q (S p6) with | some k => Ot.ok k | none => .no 15 (i : Int)) = _
        rw [hr]
      rw [he]
      rw [hr] at hlk
      clear hb1 CU2 hr he
      subst hW1
      go_enter Tryz.func64, Tryz.ntmps64
      go_wp2_with (go_at_call 65; refine (CU1 _).mono ?_; rintro e w1 ⟨rfl, hw1⟩; rw [hw1]; clear hw1)
      exact ⟨rfl, rfl, HB1.out⟩
    | some k =>
      have he : ckP q i (2, p2, p3, p4, p5, p6) a b = .ok k := by
        show (match q (S p6) with | some k => Ot.ok k | none => .no 15 (i : Int)) = _
        rw [hr]
      rw [he]
      rw [hr] at hlk
      clear hb1 CU1 CU2 hr he
      subst hW1
      go_enter Tryz.func64, Tryz.ntmps64
      go_wp2
      go_ret
      exact ⟨rfl, HB1.out⟩
  · have hop3 : 3 ≤ p1 ∧ p1 ≤ 18 := ⟨h3, hop.2⟩
    have CK := kind_any p1 a b hop3
    have he : ckP q i (p1, p2, p3, p4, p5, p6) a b = if kof p1 a b = 0 then .no 9 i else .ok (kof p1 a b) := by
      unfold ckP
      rw [if_neg (by simp only; omega), if_neg (by simp only; omega)]
    rw [he]
    generalize kof p1 a b = r at CK ⊢
    have n1 : (p1 == 1) = false := beq_eq_false_iff_ne.2 (by omega)
    have n2 : (p1 == 2) = false := beq_eq_false_iff_ne.2 (by omega)
    have z0 : W1.cell? ⟨w.heap.size, 0, none⟩ = some (.int .i64 p1) := by rw [← hW1]; exact World.cell?_alloc_new _ _ _ 0
    have z5 : W1.cell? ⟨w.heap.size, 5, none⟩ = some (.string (S p6)) := by rw [← hW1]; exact World.cell?_alloc_new _ _ _ 5
    have hlw : w.heap.size < W1.heap.size := by rw [← hW1]; simp
    have hk1 : W1.cell? ⟨bk, 0, none⟩ = some (.map (some mb)) := (hb1.cell (p := ⟨bk, 0, none⟩) hbk).trans hk
    have HW : Hid (_ = W1) := hW1
    have hx1 : W1.cell? ⟨bx, 0, none⟩ = some (.slice (some ⟨b0, off, none⟩) l.length cap) := (hb1.cell (p := ⟨bx, 0, none⟩) hbx).trans hx
    have d0 : W1.cell? ⟨b0, off + i * 6, none⟩ = some (.int .i64 p1) := (hb1.cell (p := ⟨b0, off + i * 6, none⟩) hbl).trans c0
    have hbl1 : b0 < W1.heap.size := by omega
    by_cases hr : r = 0
    · subst hr
      rw [if_pos rfl]
      clear hb1 CU1 he hlk h3 hop hop3
      subst hW1
      go_enter Tryz.func64, Tryz.ntmps64
      go_wp2_with (first
        | (go_at_call 66; refine (CK _).mono ?_; rintro e w1 ⟨rfl, hw1⟩; rw [hw1]; clear hw1)
        | (go_at_call 65; refine (CU2 _).mono ?_; rintro e w1 ⟨rfl, hw1⟩; rw [hw1]; clear hw1))
      exact ⟨rfl, rfl, HB1.out⟩
    · rw [if_neg hr]
      have n3 : (r == 0) = false := beq_eq_false_iff_ne.2 hr
      clear hb1 CU1 CU2 he hlk h3 hop hop3
      subst hW1
      go_enter Tryz.func64, Tryz.ntmps64
      go_wp2_with (go_at_call 66; refine (CK _).mono ?_; rintro e w1 ⟨rfl, hw1⟩; rw [hw1]; clear hw1)
      go_ret
      exact ⟨rfl, HB1.out⟩
end Go.Proofs.YtpbfdaijnndilaaGreatDoor.x10
namespace Go.Proofs.YtpbfdaijnndilaaGreatDoor.x10
open Go.RowKit Go.Shelf Go.Sort
open Go.Lib hiding intOf

/-- the kinds of the parts, one behind the other -/
def ckl (q : ByteArray → Option Int) : List P10 → List Int → Ot (List Int)
  | [], acc => .ok acc
  | p :: t, acc => match ckP q acc.length p (gt acc p.2.1) (gt acc p.2.2.1) with
    | .ok k => ckl q t (acc ++ [k])
    | .no e a => .no e a
    | .out => .out
theorem ckl_ok {q : ByteArray → Option Int} {p : P10} {t : List P10} {acc : List Int} {k : Int} (h : ckP q acc.length p (gt acc p.2.1) (gt acc p.2.2.1) = .ok k) : ckl q (p :: t) acc = ckl q t (acc ++ [k]) := by
  show (match ckP q acc.length p (gt acc p.2.1) (gt acc p.2.2.1) with | .ok k => ckl q t (acc ++ [k]) | .no e a => .no e a | .out => .out) = _
  rw [h]
theorem ckl_no {q : ByteArray → Option Int} {p : P10} {t : List P10} {acc : List Int} {e a : Int} (h : ckP q acc.length p (gt acc p.2.1) (gt acc p.2.2.1) = .no e a) : ckl q (p :: t) acc = .no e a := by
  show (match ckP q acc.length p (gt acc p.2.1) (gt acc p.2.2.1) with | .ok k => ckl q t (acc ++ [k]) | .no e a => .no e a | .out => .out) = _
  rw [h]
theorem ckP_out (q : ByteArray → Option Int) (i : Nat) (p : P10) (a b : Int) : ckP q i p a b ≠ .out := by
  unfold ckP
  intro h
  split at h
  · cases h
  · split at h
    · split at h <;> cases h
    · split at h <;> cases h
/-- the last one's -/
def ckT (r : Ot (List Int)) (n : Nat) : Ot Int := match r with
  | .ok f => .ok (f[n - 1]?.getD 0)
  | .no e a => .no e a
  | .out => .out

set_option maxHeartbeats 4000000 in
set_option maxRecDepth 100000 in
theorem alongK_any {w : World} {v : Value} {l : List P10} (hE : Es w v l) (hsh : shp l = true) (hz : ∀ p ∈ l, (S p.2.2.2.2.2).size ≤ maxLen) {bx bk mb n : Nat} {q : ByteArray → Option Int} (hK : Km w mb n q) (hx : w.cell? ⟨bx, 0, none⟩ = some v) (hk : w.cell? ⟨bk, 0, none⟩ = some (.map (some mb))) (hbx : bx < w.heap.size) (hbk : bk < w.heap.size) : Calls Tryz.prog 31 #[v, .func (.func 64) #[] #[.pointer (some ⟨bx, 0, none⟩), .pointer (some ⟨bk, 0, none⟩)]] w (Ip w (ckT (ckl q l []) l.length)) := by
  obtain ⟨i0, hi0, hz0, hz1, hz2⟩ := info_parts infoInt
  obtain ⟨h100, h1, -⟩ := shp_wg hsh
  have HW : Hid (∀ (i : Nat) (hi : i < l.length), Wf l i l[i] ∧ Wg i l[i]) := fun i hi => ⟨shp_wf hsh hi, (shp_wg hsh).2.2 i hi⟩
  have HE : Hid (Es w v l ∧ Km w mb n q ∧ w.cell? ⟨bx, 0, none⟩ = some v ∧ w.cell? ⟨bk, 0, none⟩ = some (.map (some mb))) := ⟨hE, hK, hx, hk⟩
  have HZ : Hid (∀ p ∈ l, (S p.2.2.2.2.2).size ≤ maxLen) := hz
  obtain ⟨va, vcap, rfl, -, -⟩ := hE
  obtain ⟨R, hR⟩ : ∃ R, ckl q l [] = R := ⟨_, rfl⟩
  rw [hR]
  have HR : Hid (ckl q l [] = R) := hR
  clear hR hsh hx hk hz hK
  go_enter Tryz.func31, Tryz.ntmps31
  go_wp2
  go_loopw [12, 5] (fun v12 v5 wr => ∃ (f : List Int) (fa : Option Addr) (fc : Nat), v12 = .int .i64 (f.length : Int) ∧ v5 = .slice fa f.length fc ∧ f.length ≤ l.length ∧ Hid (wr.ownsRow w.heap.size 3 1 (.slice fa f.length fc) f.length (iv f)) ∧ Hid (Below w.heap.size w wr) ∧ Hid (ckl q (l.drop f.length) f = R)) (fun v12 _ _ => l.length - (intOf v12).toNat)
  case atStart => exact ⟨[], none, 0, rfl, rfl, Nat.zero_le _, ⟨rfl, .inl ⟨rfl, rfl⟩⟩, Below.refl _ _, HR⟩
  case round =>
    obtain ⟨f, fa, fc, rfl, rfl, hi, HF, HB, HS⟩ := hrel
    by_cases hlt : f.length < l.length
    · obtain ⟨p, hp⟩ : ∃ p, l[f.length] = p := ⟨_, rfl⟩
      have hdr : l.drop f.length = p :: l.drop (f.length + 1) := by rw [← hp]; exact List.drop_eq_getElem_cons hlt
      obtain ⟨hwf, hwg⟩ := HW.out f.length hlt
      have hzp := HZ.out _ (List.getElem_mem hlt)
      obtain ⟨bl, off, cap, hv, hbl, hcc⟩ := HE.out.1.at hlt
      obtain ⟨c0, c1, c2, c3, c4, c5⟩ := hcc f.length hlt
      have hw' : ∀ o, wr.cell? ⟨bl, o, none⟩ = w.cell? ⟨bl, o, none⟩ := fun o => HB.out.cell (p := ⟨bl, o, none⟩) hbl
      rw [← hw', hp] at c0 c1 c2 c3 c4 c5
      cases hv
      have hblw : bl < wr.heap.size := Nat.lt_of_lt_of_le hbl HB.out.size
      have HNX0 : Hid (∀ w1, Below wr.heap.size wr w1 → Below w.heap.size w w1 ∧ w1.ownsRow w.heap.size 3 1 (.slice fa f.length fc) f.length (iv f)) := fun w1 hb => ⟨HB.out.trans (hb.mono HB.out.size), (Ch.of_below (X := fun _ => False) hb).row HF.out (fun _ _ e => e)⟩
      obtain ⟨W1, hW1⟩ : ∃ W1, wr.alloc (.cells #[.int .i64 p.1, .int .i64 p.2.1, .int .i64 p.2.2.1, .int .i64 p.2.2.2.1, .int .i64 p.2.2.2.2.1, .string (S p.2.2.2.2.2)] 68) = W1 := ⟨_, rfl⟩
      have ha1 : Below wr.heap.size wr W1 := by rw [← hW1]; exact (Below.refl _ wr).alloc (Nat.le_refl _) _
      have HNX : Hid (∀ w2, Below W1.heap.size W1 w2 → Below w.heap.size w w2 ∧ w2.ownsRow w.heap.size 3 1 (.slice fa f.length fc) f.length (iv f)) := fun w2 hb => HNX0.out w2 (ha1.trans (hb.mono ha1.size))
      have hB1 := (HNX0.out W1 ha1).1
      have CM := ck1_any (HE.out.1.below hB1) hlt hwf.op hzp (gt f l[f.length].2.1) (gt f l[f.length].2.2.1) (HE.out.2.1.below hB1) ((hB1.cell (p := ⟨bx, 0, none⟩) hbx).trans HE.out.2.2.1) ((hB1.cell (p := ⟨bk, 0, none⟩) hbk).trans HE.out.2.2.2) (Nat.lt_of_lt_of_le hbx hB1.size) (Nat.lt_of_lt_of_le hbk hB1.size)
      rw [hp] at hwf hwg CM
      obtain ⟨r, hr⟩ : ∃ r, ckP q f.length p (gt f p.2.1) (gt f p.2.2.1) = r := ⟨_, rfl⟩
      rw [hr] at CM
      have HWE : Hid (_ = W1) := hW1
      have hin : IntKind.i64.wrap ((f.length : Int) + 1) = ((f.length + 1 : Nat) : Int) := by rw [IntKind.wrap_i64]; omega
      have HFR : Hid _ := HF.out
      have HRO : Hid (r ≠ .out) := hr ▸ ckP_out q _ _ _ _
      have HS0 : Hid (∀ k, r = .ok k → ckl q (l.drop (f.length + 1)) (f ++ [k]) = R) := fun k e => by rw [e] at hr; rw [← ckl_ok hr, ← hdr]; exact HS.out
      have HS9 : Hid (∀ e a, r = .no e a → R = .no e a) := fun e a e' => by rw [e'] at hr; rw [← ckl_no (t := l.drop (f.length + 1)) hr, ← hdr]; exact HS.out.symm
      clear hcc hw' HS hdr hp HNX0 hB1 ha1 hW1 hr hzp
      obtain ⟨p1, p2, p3, p4, p5, p6⟩ := p
      simp only at c0 c1 c2 c3 c4 c5 CM HWE
      rcases hnd_cases hwf.op with ⟨q, -⟩ | ⟨q, -⟩ | ⟨q, -⟩
      · obtain ⟨e1, e2⟩ := hwg.z q
        simp only at e1 e2
        subst e1
        subst e2
        simp only [gt_no] at CM
        clear hwf hwg q
        rcases r with r | ⟨er, ea⟩ | _
        · have CM2 : Calls Tryz.prog 64 _ W1 fun e w' => e = .returned (.int .i64 r) ∧ Below W1.heap.size W1 w' := CM
          have HS1 : Hid (ckl q (l.drop (f.length + 1)) (f ++ [r]) = R) := HS0.out r rfl
          clear CM HS0 HS9 HRO
          go_wp2_with (first
            | (go_at_call 64; rw [HWE.out]; refine CM2.mono ?_; rintro e w2 ⟨rfl, hb2⟩; have HY : Hid _ := HNX.out w2 hb2; clear hb2 CM2)
            | (at_builtin; refine wpList_append_own _ rfl _ _ 83 rfl w.heap.size 3 i0 _ 1 8 Tryz.underlying83 hi0 hz0 hz1 hz2 rfl (by decide) _ f.length (iv f) rfl (HY.out.2.alloc _) ⟨w2.heap.size, 0, none⟩ 1 1 [.int .i64 r] rfl rfl (new_one _ _ rfl _ _) (by simp [Value.oneCell']) (by unfold maxLen; omega) (by omega) (by have := HY.out.1.size; simp; omega) ?_; intro v5 w5 ho5 hg5 _; have HO5 : Hid _ := ho5; have HG5 : Hid _ := hg5; obtain ⟨a5, c5', rfl, -⟩ := row_slice ho5; clear ho5 hg5))
          go_roundw
          case rel =>
            have hlen : (f ++ [r]).length = f.length + 1 := by rw [List.length_append, List.length_singleton]
            refine ⟨f ++ [r], a5, c5', by rw [hlen]; simp, by rw [hlen], by rw [hlen]; omega, ?_, shd_below HY.out.1 HY.out.2 HG5.out, by rw [hlen]; exact HS1⟩
            show World.ownsRow _ _ _ _ _ _ _
            rw [hlen, ← iv_snoc]
            exact HO5.out
          case measure => simp [intOf]; omega
        · have CM2 : Calls Tryz.prog 64 _ W1 fun e w' => e = .panicked (wrg er ea) ∧ Below W1.heap.size W1 w' := CM
          have hR : R = .no er ea := HS9.out er ea rfl
          subst hR
          clear CM HS0 HS9 HRO
          go_wp2_with (go_at_call 64; rw [HWE.out]; refine CM2.mono ?_; rintro e w2 ⟨rfl, hb2⟩; have HY : Hid _ := HNX.out w2 hb2; clear hb2 CM2)
          exact ⟨rfl, rfl, HY.out.1⟩
        · exact absurd rfl HRO.out
      · obtain ⟨⟨a, hai, e1⟩, e2⟩ := hwg.o q
        simp only at e1 e2
        subst e1
        subst e2
        simp only [gt_no, gt_at hai] at CM
        obtain ⟨g, hfa, hgl, hgc⟩ := row_at HF.out hai
        have da := hgc a hai
        subst hfa
        clear hwf hwg q hgc
        generalize f[a] = xa at *
        have j1 : (0 : Int) ≤ (a : Int) := by omega
        have j2 : (a : Int) < (f.length : Int) := by omega
        rcases r with r | ⟨er, ea⟩ | _
        · have CM2 : Calls Tryz.prog 64 _ W1 fun e w' => e = .returned (.int .i64 r) ∧ Below W1.heap.size W1 w' := CM
          have HS1 : Hid (ckl q (l.drop (f.length + 1)) (f ++ [r]) = R) := HS0.out r rfl
          clear CM HS0 HS9 HRO
          go_wp2_with (first
            | (go_at_call 64; rw [HWE.out]; refine CM2.mono ?_; rintro e w2 ⟨rfl, hb2⟩; have HY : Hid _ := HNX.out w2 hb2; clear hb2 CM2)
            | (at_builtin; refine wpList_append_own _ rfl _ _ 83 rfl w.heap.size 3 i0 _ 1 8 Tryz.underlying83 hi0 hz0 hz1 hz2 rfl (by decide) _ f.length (iv f) rfl (HY.out.2.alloc _) ⟨w2.heap.size, 0, none⟩ 1 1 [.int .i64 r] rfl rfl (new_one _ _ rfl _ _) (by simp [Value.oneCell']) (by unfold maxLen; omega) (by omega) (by have := HY.out.1.size; simp; omega) ?_; intro v5 w5 ho5 hg5 _; have HO5 : Hid _ := ho5; have HG5 : Hid _ := hg5; obtain ⟨a5, c5', rfl, -⟩ := row_slice ho5; clear ho5 hg5))
          go_roundw
          case rel =>
            have hlen : (f ++ [r]).length = f.length + 1 := by rw [List.length_append, List.length_singleton]
            refine ⟨f ++ [r], a5, c5', by rw [hlen]; simp, by rw [hlen], by rw [hlen]; omega, ?_, shd_below HY.out.1 HY.out.2 HG5.out, by rw [hlen]; exact HS1⟩
            show World.ownsRow _ _ _ _ _ _ _
            rw [hlen, ← iv_snoc]
            exact HO5.out
          case measure => simp [intOf]; omega
        · have CM2 : Calls Tryz.prog 64 _ W1 fun e w' => e = .panicked (wrg er ea) ∧ Below W1.heap.size W1 w' := CM
          have hR : R = .no er ea := HS9.out er ea rfl
          subst hR
          clear CM HS0 HS9 HRO
          go_wp2_with (go_at_call 64; rw [HWE.out]; refine CM2.mono ?_; rintro e w2 ⟨rfl, hb2⟩; have HY : Hid _ := HNX.out w2 hb2; clear hb2 CM2)
          exact ⟨rfl, rfl, HY.out.1⟩
        · exact absurd rfl HRO.out
      · obtain ⟨⟨a, hai, e1⟩, a', hai', e2⟩ := hwg.t q
        simp only at e1 e2
        subst e1
        subst e2
        simp only [gt_at hai, gt_at hai'] at CM
        obtain ⟨g, hfa, hgl, hgc⟩ := row_at HF.out hai
        have da := hgc a hai
        have db := hgc a' hai'
        subst hfa
        clear hwf hwg q hgc
        generalize f[a] = xa at *
        generalize f[a'] = xb at *
        have j1 : (0 : Int) ≤ (a : Int) := by omega
        have j2 : (a : Int) < (f.length : Int) := by omega
        have j3 : (0 : Int) ≤ (a' : Int) := by omega
        have j4 : (a' : Int) < (f.length : Int) := by omega
        rcases r with r | ⟨er, ea⟩ | _
        · have CM2 : Calls Tryz.prog 64 _ W1 fun e w' => e = .returned (.int .i64 r) ∧ Below W1.heap.size W1 w' := CM
          have HS1 : Hid (ckl q (l.drop (f.length + 1)) (f ++ [r]) = R) := HS0.out r rfl
          clear CM HS0 HS9 HRO
          go_wp2_with (first
            | (go_at_call 64; rw [HWE.out]; refine CM2.mono ?_; rintro e w2 ⟨rfl, hb2⟩; have HY : Hid _ := HNX.out w2 hb2; clear hb2 CM2)
            | (at_builtin; refine wpList_append_own _ rfl _ _ 83 rfl w.heap.size 3 i0 _ 1 8 Tryz.underlying83 hi0 hz0 hz1 hz2 rfl (by decide) _ f.length (iv f) rfl (HY.out.2.alloc _) ⟨w2.heap.size, 0, none⟩ 1 1 [.int .i64 r] rfl rfl (new_one _ _ rfl _ _) (by simp [Value.oneCell']) (by unfold maxLen; omega) (by omega) (by have := HY.out.1.size; simp; omega) ?_; intro v5 w5 ho5 hg5 _; have HO5 : Hid _ := ho5; have HG5 : Hid _ := hg5; obtain ⟨a5, c5', rfl, -⟩ := row_slice ho5; clear ho5 hg5))
          go_roundw
          case rel =>
            have hlen : (f ++ [r]).length = f.length + 1 := by rw [List.length_append, List.length_singleton]
            refine ⟨f ++ [r], a5, c5', by rw [hlen]; simp, by rw [hlen], by rw [hlen]; omega, ?_, shd_below HY.out.1 HY.out.2 HG5.out, by rw [hlen]; exact HS1⟩
            show World.ownsRow _ _ _ _ _ _ _
            rw [hlen, ← iv_snoc]
            exact HO5.out
          case measure => simp [intOf]; omega
        · have CM2 : Calls Tryz.prog 64 _ W1 fun e w' => e = .panicked (wrg er ea) ∧ Below W1.heap.size W1 w' := CM
          have hR : R = .no er ea := HS9.out er ea rfl
          subst hR
          clear CM HS0 HS9 HRO
          go_wp2_with (go_at_call 64; rw [HWE.out]; refine CM2.mono ?_; rintro e w2 ⟨rfl, hb2⟩; have HY : Hid _ := HNX.out w2 hb2; clear hb2 CM2)
          exact ⟨rfl, rfl, HY.out.1⟩
        · exact absurd rfl HRO.out
    · have hfl : f.length = l.length := by omega
      have hnl : ¬ (f.length : Int) < (l.length : Int) := by omega
      have HE1 : R = .ok f := by
        rw [← HS.out, hfl, List.drop_length]
        rfl
      subst HE1
      have hai : l.length - 1 < f.length := by omega
      obtain ⟨g, hfa, hgl, hgc⟩ := row_at HF.out hai
      have da := hgc (l.length - 1) hai
      have HV : Hid (f[l.length - 1]?.getD 0 = f[l.length - 1]) := by
        show _ = _
        rw [List.getElem?_eq_getElem hai]
        rfl
      subst hfa
      generalize f[l.length - 1] = xa at *
      have hkw : IntKind.i64.wrap ((l.length : Int) - 1) = ((l.length - 1 : Nat) : Int) := by rw [IntKind.wrap_i64]; omega
      have j1 : (0 : Int) ≤ ((l.length - 1 : Nat) : Int) := by omega
      have j2 : ((l.length - 1 : Nat) : Int) < (f.length : Int) := by omega
      obtain ⟨m, hm⟩ : ∃ m, l.length - 1 = m := ⟨_, rfl⟩
      have HVV : Hid (f[l.length - 1]?.getD 0 = xa) := HV.out
      rw [hm] at hkw j1 j2 da hai
      clear hgc HV HS hfl hm
      go_wp2
      go_ret
      refine ⟨?_, HB.out⟩
      rw [HVV.out]
      rfl
end Go.Proofs.YtpbfdaijnndilaaGreatDoor.x10
namespace Go.Proofs.YtpbfdaijnndilaaGreatDoor.x10
open Go.RowKit Go.Shelf Go.Sort
open Go.Lib hiding intOf

theorem ckl_out (q : ByteArray → Option Int) : ∀ (l : List P10) (acc : List Int), ckl q l acc ≠ .out
  | [], _ => fun h => by cases h
  | p :: t, acc => by
    cases h : ckP q acc.length p (gt acc p.2.1) (gt acc p.2.2.1) with
    | ok k => rw [ckl_ok h]; exact ckl_out q t _
    | no e a => rw [ckl_no h]; intro h; cases h
    | out => exact absurd h (ckP_out q _ _ _ _)
theorem ckT_out (q : ByteArray → Option Int) (l : List P10) (n : Nat) : ckT (ckl q l []) n ≠ .out := by
  cases h : ckl q l [] with
  | ok f => intro h; cases h
  | no e a => intro h; cases h
  | out => exact absurd h (ckl_out q _ _)

set_option maxHeartbeats 1000000 in
set_option maxRecDepth 100000 in
theorem checked_any {w : World} {v : Value} {l : List P10} (hE : Es w v l) (hsh : shp l = true) (hz : ∀ p ∈ l, (S p.2.2.2.2.2).size ≤ maxLen) {mb n : Nat} {q : ByteArray → Option Int} (hK : Km w mb n q) : Calls Tryz.prog 37 #[v, .map (some mb)] w (Ip w (ckT (ckl q l []) l.length)) := by
  have hmf : ∀ (fn : Fn) (first cap : Array Value) (w : World), (Instr.makeFunc fn first cap).run Tryz.prog w = .ok (.func fn first cap) w := fun _ _ _ _ => rfl
  obtain ⟨W1, hW1⟩ : ∃ W1, (w.alloc (.cells #[v] 24)).alloc (.cells #[.map (some mb)] 76) = W1 := ⟨_, rfl⟩
  have hb1 : Below w.heap.size w W1 := by rw [← hW1]; exact ((Below.refl _ w).alloc (Nat.le_refl _) _).alloc (by simp) _
  have ho1 : W1.heap[w.heap.size]? = some (.cells #[v] 24 (0, 0)) := by rw [← hW1]; exact (Below.heap_alloc _ _ _ (by simp)).trans (heap_alloc_new w _)
  have ho2 : W1.heap[w.heap.size + 1]? = some (.cells #[.map (some mb)] 76 (0, 0)) := by rw [← hW1]; have := heap_alloc_new (w.alloc (.cells #[v] 24)) (.cells #[.map (some mb)] 76); rw [World.size_alloc] at this; exact this
  have hs1 : W1.heap.size = w.heap.size + 2 := by rw [← hW1]; simp
  have c1 : W1.cell? ⟨w.heap.size, 0, none⟩ = some v := by simp [World.cell?, ho1]
  have c2 : W1.cell? ⟨w.heap.size + 1, 0, none⟩ = some (.map (some mb)) := by simp [World.cell?, ho2]
  have CA := alongK_any (hE.below hb1) hsh hz (hK.below hb1) c1 c2 (by omega) (by omega)
  have HW : Hid (_ = W1) := hW1
  have HB : Hid (∀ w2, Below W1.heap.size W1 w2 → Below w.heap.size w w2) := fun w2 h => hb1.trans (h.mono hb1.size)
  have hz1 : w.heap.size < W1.heap.size := by omega
  have HO : Hid (ckT (ckl q l []) l.length ≠ .out) := ckT_out q l _
  generalize ckT (ckl q l []) l.length = r at *
  obtain ⟨va, vcap, rfl, -, -⟩ := hE
  clear hb1 ho1 ho2 hs1 c2 hW1 hsh hz hK
  rcases r with r | ⟨er, ea⟩ | _
  · have CA2 : Calls Tryz.prog 31 _ W1 fun e w' => e = .returned (.int .i64 r) ∧ Below W1.heap.size W1 w' := CA
    clear CA
    go_enter Tryz.func37, Tryz.ntmps37
    go_wp2_with (go_at_call 31; rw [HW.out]; refine CA2.mono ?_; rintro e w2 ⟨rfl, hb2⟩; have HY : Hid _ := HB.out w2 hb2; clear hb2 CA2)
    go_ret
    exact ⟨rfl, HY.out⟩
  · have CA2 : Calls Tryz.prog 31 _ W1 fun e w' => e = .panicked (wrg er ea) ∧ Below W1.heap.size W1 w' := CA
    clear CA
    go_enter Tryz.func37, Tryz.ntmps37
    go_wp2_with (go_at_call 31; rw [HW.out]; refine CA2.mono ?_; rintro e w2 ⟨rfl, hb2⟩; have HY : Hid _ := HB.out w2 hb2; clear hb2 CA2)
    exact ⟨rfl, rfl, HY.out⟩
  · exact absurd rfl HO.out

set_option maxHeartbeats 400000 in
theorem ckk_any {w : World} {v : Value} {l : List P10} (hE : Es w v l) (hsh : shp l = true) (hz : ∀ p ∈ l, (S p.2.2.2.2.2).size ≤ maxLen) {bx bk mb n : Nat} {q : ByteArray → Option Int} (hK : Km w mb n q) (hx : w.cell? ⟨bx, 0, none⟩ = some v) (hk : w.cell? ⟨bk, 0, none⟩ = some (.map (some mb))) : Calls Tryz.prog 36 #[.pointer (some ⟨bx, 0, none⟩), .pointer (some ⟨bk, 0, none⟩)] w (Ip w (ckT (ckl q l []) l.length)) := by
  have CA := checked_any hE hsh hz hK
  have HO : Hid (ckT (ckl q l []) l.length ≠ .out) := ckT_out q l _
  generalize ckT (ckl q l []) l.length = r at *
  obtain ⟨va, vcap, rfl, -, -⟩ := hE
  clear hsh hz hK
  rcases r with r | ⟨er, ea⟩ | _
  · have CA2 : Calls Tryz.prog 37 _ w fun e w' => e = .returned (.int .i64 r) ∧ Below w.heap.size w w' := CA
    clear CA
    go_enter Tryz.func36, Tryz.ntmps36
    go_wp2_with (go_at_call 37; refine CA2.mono ?_; rintro e w2 ⟨rfl, hb2⟩; have HY : Hid _ := hb2; clear hb2 CA2)
    go_ret
    exact ⟨rfl, HY.out⟩
  · have CA2 : Calls Tryz.prog 37 _ w fun e w' => e = .panicked (wrg er ea) ∧ Below w.heap.size w w' := CA
    clear CA
    go_enter Tryz.func36, Tryz.ntmps36
    go_wp2_with (go_at_call 37; refine CA2.mono ?_; rintro e w2 ⟨rfl, hb2⟩; have HY : Hid _ := hb2; clear hb2 CA2)
    exact ⟨rfl, rfl, HY.out⟩
  · exact absurd rfl HO.out
end Go.Proofs.YtpbfdaijnndilaaGreatDoor.x10
namespace Go.Proofs.YtpbfdaijnndilaaGreatDoor.x10
open Go.RowKit Go.Shelf Go.Sort
open Go.Lib hiding intOf

set_option maxHeartbeats 1000000 in
set_option maxRecDepth 100000 in
theorem catK_no (x : Nat) (er ea y z : Int) (older : List PanicEntry) (w : World) (h0 : w.cell? ⟨x, 0, none⟩ = some (.int .i64 y)) (h1 : w.cell? ⟨x, 1, none⟩ = some (.int .i64 z)) (f0 : w.frozen? ⟨x, 0, none⟩ = false) (f1 : w.frozen? ⟨x, 1, none⟩ = false) :
    CallsD Tryz.prog 63 #[.pointer (some ⟨x, 0, none⟩)] (.panicking ({ v := .iface 63 (.agg #[.int .i64 er, .int .i64 ea]), recovered := false } :: older)) w fun e u' w' =>
      e = .returned (.tuple #[]) ∧ u' = .panicking ({ v := .iface 63 (.agg #[.int .i64 er, .int .i64 ea]), recovered := true } :: older) ∧ w' = (w.setCell ⟨x, 0, none⟩ (.int .i64 er)).setCell ⟨x, 1, none⟩ (.int .i64 ea) := by
  have hta := as_wrong
  refine callsD_of_wpS Tryz.func63 rfl fun c₀ cs hu => ?_
  apply wpS_seq
  apply wpS_region
  simp [wpOpsS, go_sem, recoverD, hu, Tryz.ntmps63, Exit.thenS]
  refine wpS_of_wp ?_
  go_wp2
  simp [bodyPostS, results, Tryz.results63]
set_option maxHeartbeats 1000000 in
set_option maxRecDepth 100000 in
theorem catK_ok (x : Nat) (w : World) :
    CallsD Tryz.prog 63 #[.pointer (some ⟨x, 0, none⟩)] .returning w fun e u' w' => e = .returned (.tuple #[]) ∧ u' = .returning ∧ w' = w := by
  refine callsD_of_wpS Tryz.func63 rfl fun c₀ cs hu => ?_
  apply wpS_seq
  apply wpS_region
  simp [wpOpsS, go_sem, recoverD, hu, Tryz.ntmps63, Exit.thenS]
  refine wpS_of_wp ?_
  go_wp2
  cases c₀
  simp_all [bodyPostS, results, Tryz.results63]

/-- how attempt of a kind ends -/
def ApK (w : World) (r : Ot Int) (e : Ending) (w' : World) : Prop := match r with
  | .ok v => e = .returned (.tuple #[.int .i64 v, .agg #[.int .i64 0, .int .i64 0]]) ∧ Below w.heap.size w w'
  | .no er a => e = .returned (.tuple #[.int .i64 0, .agg #[.int .i64 er, .int .i64 a]]) ∧ Below w.heap.size w w'
  | .out => True
set_option maxHeartbeats 2000000 in
set_option maxRecDepth 100000 in
theorem attK_any {w : World} {q6 q2 : Value} {r : Ot Int} (CE : ∀ W, Below w.heap.size w W → Calls Tryz.prog 36 #[q6, q2] W (Ip W r)) (hr : r ≠ .out) : Calls Tryz.prog 35 #[.func (.func 36) #[] #[q6, q2]] w (ApK w r) := by
  have hmf : ∀ (fn : Fn) (first cap : Array Value) (w : World), (Instr.makeFunc fn first cap).run Tryz.prog w = .ok (.func fn first cap) w := fun _ _ _ _ => rfl
  obtain ⟨W1, hW1⟩ : ∃ W1, w.alloc (.cells #[.int .i64 0, .int .i64 0] 63) = W1 := ⟨_, rfl⟩
  have hb1 : Below w.heap.size w W1 := by rw [← hW1]; exact (Below.refl _ w).alloc (Nat.le_refl _) _
  have ho2 : W1.heap[w.heap.size]? = some (.cells #[.int .i64 0, .int .i64 0] 63 (0, 0)) := by rw [← hW1]; exact heap_alloc_new w _
  have hs1 : W1.heap.size = w.heap.size + 1 := by rw [← hW1]; simp
  have CE1 := CE W1 hb1
  have HW : Hid (_ = W1) := hW1
  have HB : Hid (∀ W, Below W1.heap.size W1 W → (W.cell? ⟨w.heap.size, 0, none⟩ = some (.int .i64 0) ∧ W.cell? ⟨w.heap.size, 1, none⟩ = some (.int .i64 0)) ∧ (W.frozen? ⟨w.heap.size, 0, none⟩ = false ∧ W.frozen? ⟨w.heap.size, 1, none⟩ = false) ∧ w.heap.size < W.heap.size ∧ Hid (∀ u3 u4, Below w.heap.size w ((W.setCell ⟨w.heap.size, 0, none⟩ u3).setCell ⟨w.heap.size, 1, none⟩ u4))) := fun W hW => by
    have h4 := (hW.block w.heap.size (by omega)).trans ho2
    have hb := bel_of hb1 hW (Nat.le_refl _)
    have hz := hW.size
    refine ⟨⟨by simp [World.cell?, h4], by simp [World.cell?, h4]⟩, ⟨by simp [World.frozen?, h4], by simp [World.frozen?, h4]⟩, by omega, fun u3 u4 => ?_⟩
    have c := ((Ch.refl (fun k => w.heap.size ≤ k) W).setCell ⟨w.heap.size, 0, none⟩ u3 (fun _ => Nat.le_refl _)).setCell ⟨w.heap.size, 1, none⟩ u4 (fun _ => Nat.le_refl _)
    exact hb.trans (below_of_ch c hb.size (fun k hk e => by omega))
  clear hb1 ho2 hs1 hW1 CE
  rcases r with v | ⟨er, ea⟩ | _
  · have CE2 : Calls Tryz.prog 36 _ W1 fun e w' => e = .returned (.int .i64 v) ∧ Below W1.heap.size W1 w' := CE1
    clear CE1
    go_enter_defers Tryz.func35, Tryz.ntmps35
    go_wp2_with (go_at_call 36; rw [HW.out]; refine CE2.mono ?_; rintro e w2 ⟨rfl, hb2⟩; obtain ⟨⟨d3, d4⟩, ⟨f3, f4⟩, hl3, HS⟩ := HB.out w2 hb2; clear hb2 CE2)
    refine leaves_cons (f := 63) (args := #[.pointer (some ⟨w.heap.size, 0, none⟩)]) (by simp) (by simp [go_sem]) ?_
    refine (catK_ok _ _).mono ?_
    rintro e u' w'' ⟨rfl, rfl, rfl⟩
    simp [Leaves, settle, results, Tryz.results35, go_sem, d3, d4]
    exact ⟨rfl, HS.out _ _⟩
  · have CE2 : Calls Tryz.prog 36 _ W1 fun e w' => e = .panicked (wrg er ea) ∧ Below W1.heap.size W1 w' := CE1
    clear CE1
    go_enter_defers Tryz.func35, Tryz.ntmps35
    go_wp2_with (go_at_call 36; rw [HW.out]; refine CE2.mono ?_; rintro e w2 ⟨rfl, hb2⟩; obtain ⟨⟨d3, d4⟩, ⟨f3, f4⟩, hl3, HS⟩ := HB.out w2 hb2; clear hb2 CE2)
    refine leaves_cons (f := 63) (args := #[.pointer (some ⟨w.heap.size, 0, none⟩)]) (by simp) (by simp [go_sem]) ?_
    refine (catK_no (w.heap.size) er ea 0 0 [] w2 d3 d4 f3 f4).mono ?_
    rintro e u' w'' ⟨rfl, rfl, rfl⟩
    simp [Leaves, settle, results, Tryz.results35, go_sem, d3, d4]
    exact ⟨rfl, HS.out _ _⟩
  · exact absurd rfl hr
end Go.Proofs.YtpbfdaijnndilaaGreatDoor.x10
namespace Go.Proofs.YtpbfdaijnndilaaGreatDoor.x10
open Go.RowKit Go.Shelf Go.Sort
open Go.Lib hiding intOf

theorem ckl_err {q : ByteArray → Option Int} : ∀ {l : List P10} {acc : List Int} {e a : Int}, ckl q l acc = .no e a → e = 15 ∨ e = 9
  | [], _, _, _, h => by cases h
  | p :: t, acc, e, a, h => by
    cases hp : ckP q acc.length p (gt acc p.2.1) (gt acc p.2.2.1) with
    | ok k => rw [ckl_ok hp] at h; exact ckl_err h
    | out => exact absurd hp (ckP_out q _ _ _ _)
    | no e' a' =>
      rw [ckl_no hp] at h
      cases h
      unfold ckP at hp
      split at hp
      · cases hp
      · split at hp
        · split at hp
          · cases hp
          · cases hp; exact .inl rfl
        · split at hp
          · cases hp; exact .inr rfl
          · cases hp
/-- a kind, an error and the part that it is of -/
def kdO (r : Ot Int) : Int × Int × Int := match r with
  | .ok k => (k, 0, -1)
  | .no e a => (0, e, a)
  | .out => (0, 0, -1)
/-- what Check comes to -/
def chkE (l : List P10) (ds : List D10) : Int × Int × Int := if mayE l = true then (match dcl ds (fun _ => none) with
  | some q => kdO (ckT (ckl q l []) l.length)
  | none => (0, 1, -1)) else (0, 3, -1)

set_option maxHeartbeats 1000000 in
set_option maxRecDepth 100000 in
theorem Check_form {w : World} {B : Nat} {xv dv : Value} {l : List P10} {ds : List D10} (hE : Es w xv l) (hg : Gx B w) (hB : B ≤ w.heap.size) (hD : Ds w dv ds) (hsz : ∀ p ∈ l, p.2.2.2.2.2.length ≤ 4611686018427387904) (hn : l.length ≤ 4611686018427387904) (hm : mayE l = false) : Calls Tryz.prog 17 #[xv, dv] w fun e w' => e = .returned (.tuple #[.int .i64 (chkE l ds).1, .int .i64 (chkE l ds).2.1, .int .i64 (chkE l ds).2.2]) ∧ Below w.heap.size w w' := by
  have HV : Hid (chkE l ds = (0, 3, -1)) := by show _ = _; unfold chkE; rw [if_neg (by rw [hm]; simp)]
  obtain ⟨W1, hW1⟩ : ∃ W1, w.alloc (.cells #[xv] 24) = W1 := ⟨_, rfl⟩
  have hb1 : Below w.heap.size w W1 := by rw [← hW1]; exact (Below.refl _ w).alloc (Nat.le_refl _) _
  have CM := Maye_any (hE.below hb1) (hg.below (hb1.mono hB)) (Nat.le_trans hB hb1.size) hsz hn
  rw [hm] at CM
  have x0 : W1.cell? ⟨w.heap.size, 0, none⟩ = some xv := by rw [← hW1]; exact World.cell?_alloc_new _ _ _ _
  have hlw : w.heap.size < W1.heap.size := by rw [← hW1]; simp
  have HB1 : Hid (Below w.heap.size w W1) := hb1
  have HW : Hid (_ = W1) := hW1
  obtain ⟨va, vcap, rfl, -⟩ := hE
  obtain ⟨da, dcap, rfl, -⟩ := hD
  clear hb1 hW1 hg hB hsz hn hm
  go_enter Tryz.func17, Tryz.ntmps17
  go_upto_region 1 with fail
  rw [HW.out]
  go_wp2_with (go_at_call 16; refine CM.mono ?_; rintro e w2 ⟨rfl, hb2⟩; (have H2 : Hid (Below w.heap.size w w2) := HB1.out.trans (hb2.mono HB1.out.size)); clear hb2 CM)
  refine bodyPost_ret (v := .tuple #[.int .i64 0, .int .i64 3, .int .i64 (-1)]) (by simp [results, Tryz.results17, go_sem]) rfl ?_
  rw [HV.out]
  exact ⟨rfl, H2.out⟩
end Go.Proofs.YtpbfdaijnndilaaGreatDoor.x10
namespace Go.Proofs.YtpbfdaijnndilaaGreatDoor.x10
open Go.RowKit Go.Shelf Go.Sort
open Go.Lib hiding intOf

set_option maxHeartbeats 1000000 in
set_option maxRecDepth 100000 in
theorem Check_arg {w : World} {B : Nat} {xv dv : Value} {l : List P10} {ds : List D10} (hE : Es w xv l) (hg : Gx B w) (hB : B ≤ w.heap.size) (hD : Ds w dv ds) (hsz : ∀ p ∈ l, p.2.2.2.2.2.length ≤ 4611686018427387904) (hn : l.length ≤ 4611686018427387904) (hm : mayE l = true) (hdn : ds.length ≤ 4611686018427387904) (hdz : ∀ d ∈ ds, d.1.size ≤ 4611686018427387904) (hd : dcl ds (fun _ => none) = none) : Calls Tryz.prog 17 #[xv, dv] w fun e w' => e = .returned (.tuple #[.int .i64 (chkE l ds).1, .int .i64 (chkE l ds).2.1, .int .i64 (chkE l ds).2.2]) ∧ Below w.heap.size w w' := by
  have HV : Hid (chkE l ds = (0, 1, -1)) := by show _ = _; unfold chkE; rw [if_pos hm, hd]
  obtain ⟨W1, hW1⟩ : ∃ W1, w.alloc (.cells #[xv] 24) = W1 := ⟨_, rfl⟩
  have hb1 : Below w.heap.size w W1 := by rw [← hW1]; exact (Below.refl _ w).alloc (Nat.le_refl _) _
  have CM := Maye_any (hE.below hb1) (hg.below (hb1.mono hB)) (Nat.le_trans hB hb1.size) hsz hn
  rw [hm] at CM
  have HCD : Hid (∀ W, Below w.heap.size w W → Calls Tryz.prog 34 #[dv] W (DcP W (dcl ds (fun _ => none)))) := fun W h => declared_any (hD.below h) hdn hdz
  have HDD : Hid (dcl ds (fun _ => none) = none) := hd
  have x0 : W1.cell? ⟨w.heap.size, 0, none⟩ = some xv := by rw [← hW1]; exact World.cell?_alloc_new _ _ _ _
  have hlw : w.heap.size < W1.heap.size := by rw [← hW1]; simp
  have HB1 : Hid (Below w.heap.size w W1) := hb1
  have HW : Hid (_ = W1) := hW1
  obtain ⟨va, vcap, rfl, -⟩ := hE
  obtain ⟨da, dcap, rfl, -⟩ := hD
  clear hb1 hW1 hg hB hsz hn hm hdn hdz hd
  go_enter Tryz.func17, Tryz.ntmps17
  go_upto_region 1 with fail
  rw [HW.out]
  go_wp2_with (first
    | (go_at_call 16; refine CM.mono ?_; rintro e w2 ⟨rfl, hb2⟩; (have H2 : Hid (Below w.heap.size w w2) := HB1.out.trans (hb2.mono HB1.out.size)); clear hb2 CM)
    | (go_at_call 34; refine (HCD.out w2 H2.out).mono ?_; rw [HDD.out]; rintro e w3 ⟨rfl, hb3⟩; (have H3 : Hid (Below w.heap.size w w3) := H2.out.trans (hb3.mono H2.out.size)); clear hb3))
  refine bodyPost_ret (v := .tuple #[.int .i64 0, .int .i64 1, .int .i64 (-1)]) (by simp [results, Tryz.results17, go_sem]) rfl ?_
  rw [HV.out]
  exact ⟨rfl, H3.out.alloc H3.out.size _⟩
end Go.Proofs.YtpbfdaijnndilaaGreatDoor.x10
namespace Go.Proofs.YtpbfdaijnndilaaGreatDoor.x10
open Go.RowKit Go.Shelf Go.Sort
open Go.Lib hiding intOf

set_option maxHeartbeats 1000000 in
set_option maxRecDepth 100000 in
theorem Check_go {w : World} {B : Nat} {xv dv : Value} {l : List P10} {ds : List D10} (hE : Es w xv l) (hg : Gx B w) (hB : B ≤ w.heap.size) (hD : Ds w dv ds) (hsz : ∀ p ∈ l, p.2.2.2.2.2.length ≤ 4611686018427387904) (hn : l.length ≤ 4611686018427387904) (hm : mayE l = true) (hdn : ds.length ≤ 4611686018427387904) (hdz : ∀ d ∈ ds, d.1.size ≤ 4611686018427387904) {q : ByteArray → Option Int} (hd : dcl ds (fun _ => none) = some q) : Calls Tryz.prog 17 #[xv, dv] w fun e w' => e = .returned (.tuple #[.int .i64 (chkE l ds).1, .int .i64 (chkE l ds).2.1, .int .i64 (chkE l ds).2.2]) ∧ Below w.heap.size w w' := by
  have HV : Hid (chkE l ds = kdO (ckT (ckl q l []) l.length)) := by show _ = _; unfold chkE; rw [if_pos hm, hd]
  obtain ⟨W1, hW1⟩ : ∃ W1, w.alloc (.cells #[xv] 24) = W1 := ⟨_, rfl⟩
  have hb1 : Below w.heap.size w W1 := by rw [← hW1]; exact (Below.refl _ w).alloc (Nat.le_refl _) _
  have CM := Maye_any (hE.below hb1) (hg.below (hb1.mono hB)) (Nat.le_trans hB hb1.size) hsz hn
  rw [hm] at CM
  have hsh : shp l = true := by unfold mayE at hm; rw [Bool.and_eq_true] at hm; exact hm.1
  have hz : ∀ p ∈ l, (S p.2.2.2.2.2).size ≤ maxLen := fun p hp => by have h := hsz p hp; rw [show (S p.2.2.2.2.2).size = p.2.2.2.2.2.length from rfl]; unfold maxLen; omega
  have HCA : Hid (∀ W bx bk mb n, Below w.heap.size w W → Km W mb n q → W.cell? ⟨bx, 0, none⟩ = some xv → W.cell? ⟨bk, 0, none⟩ = some (.map (some mb)) → bx < W.heap.size → bk < W.heap.size → Calls Tryz.prog 35 #[.func (.func 36) #[] #[.pointer (some ⟨bx, 0, none⟩), .pointer (some ⟨bk, 0, none⟩)]] W (ApK W (ckT (ckl q l []) l.length))) := fun W bx bk mb n h1 h2 h3 h4 h5 h6 => attK_any (fun W' hW => ckk_any ((hE.below h1).below hW) hsh hz (h2.below hW) ((hW.cell (p := ⟨bx, 0, none⟩) h5).trans h3) ((hW.cell (p := ⟨bk, 0, none⟩) h6).trans h4)) (ckT_out q l _)
  have hro := ckT_out q l l.length
  have hre : ∀ e a, ckT (ckl q l []) l.length = .no e a → e = 15 ∨ e = 9 := fun e a h => by
    cases h2 : ckl q l [] with
    | ok f => rw [h2] at h; cases h
    | out => rw [h2] at h; cases h
    | no e' a' => rw [h2] at h; cases h; exact ckl_err h2
  have HCD : Hid (∀ W, Below w.heap.size w W → Calls Tryz.prog 34 #[dv] W (DcP W (dcl ds (fun _ => none)))) := fun W h => declared_any (hD.below h) hdn hdz
  have HDD : Hid (dcl ds (fun _ => none) = some q) := hd
  have x0 : W1.cell? ⟨w.heap.size, 0, none⟩ = some xv := by rw [← hW1]; exact World.cell?_alloc_new _ _ _ _
  have hlw : w.heap.size < W1.heap.size := by rw [← hW1]; simp
  have HB1 : Hid (Below w.heap.size w W1) := hb1
  have HW : Hid (_ = W1) := hW1
  obtain ⟨va, vcap, rfl, -⟩ := hE
  obtain ⟨da, dcap, rfl, -⟩ := hD
  clear hb1 hW1 hg hB hsz hn hm hdn hdz hd hsh hz
  have hmf : ∀ (fn : Fn) (first cap : Array Value) (w : World), (Instr.makeFunc fn first cap).run Tryz.prog w = .ok (.func fn first cap) w := fun _ _ _ _ => rfl
  generalize ckT (ckl q l []) l.length = r at *
  rcases r with r | ⟨er, ea⟩ | _
  · go_enter Tryz.func17, Tryz.ntmps17
    go_upto_region 1 with fail
    rw [HW.out]
    go_wp2_with (first
      | (go_at_call 16; refine CM.mono ?_; rintro e w2 ⟨rfl, hb2⟩; (have H2 : Hid (Below w.heap.size w w2) := HB1.out.trans (hb2.mono HB1.out.size)); (have x2 := (hb2.cell (p := ⟨w.heap.size, 0, none⟩) hlw).trans x0); (have hl2 := Nat.lt_of_lt_of_le hlw hb2.size); clear hb2 CM)
      | (go_at_call 34; refine (HCD.out w2 H2.out).mono ?_; rw [HDD.out]; rintro e w3 ⟨mb, n, rfl, hK, hb3⟩; (have HK : Hid (Km w3 mb n q) := hK); (have H3 : Hid (Below w.heap.size w w3) := H2.out.trans (hb3.mono H2.out.size)); (have x3 := (hb3.cell (p := ⟨w.heap.size, 0, none⟩) hl2).trans x2); (have hl3 := Nat.lt_of_lt_of_le hl2 hb3.size); clear hb3 hK)
      | (go_at_call 35; (have hb4 : Below w3.heap.size w3 (w3.alloc (.cells #[.map (some mb)] 76)) := (Below.refl _ w3).alloc (Nat.le_refl _) _); (have H4 : Hid (Below w.heap.size w (w3.alloc (.cells #[.map (some mb)] 76))) := H3.out.trans (hb4.mono H3.out.size)); refine (HCA.out _ w.heap.size w3.heap.size mb n H4.out (HK.out.below hb4) ((hb4.cell (p := ⟨w.heap.size, 0, none⟩) hl3).trans x3) (World.cell?_alloc_new _ _ _ _) (Nat.lt_of_lt_of_le hl3 hb4.size) (by simp)).mono ?_; rintro e w5 hR; obtain ⟨he, hb5⟩ : e = .returned (.tuple #[.int .i64 r, .agg #[.int .i64 0, .int .i64 0]]) ∧ Below (w3.alloc (.cells #[.map (some mb)] 76)).heap.size (w3.alloc (.cells #[.map (some mb)] 76)) w5 := hR; subst he; (have H5 : Hid (Below w.heap.size w w5) := H4.out.trans (hb5.mono H4.out.size)); clear hb5 hb4))
    refine bodyPost_ret (v := .tuple #[.int .i64 r, .int .i64 0, .int .i64 (-1)]) (by simp [results, Tryz.results17, go_sem]) rfl ?_
    rw [HV.out]
    exact ⟨rfl, H5.out.alloc H5.out.size _⟩
  · have hne : (er == 0) = false := beq_eq_false_iff_ne.2 (by rcases hre er ea rfl with h | h <;> omega)
    go_enter Tryz.func17, Tryz.ntmps17
    go_upto_region 1 with fail
    rw [HW.out]
    go_wp2_with (first
      | (go_at_call 16; refine CM.mono ?_; rintro e w2 ⟨rfl, hb2⟩; (have H2 : Hid (Below w.heap.size w w2) := HB1.out.trans (hb2.mono HB1.out.size)); (have x2 := (hb2.cell (p := ⟨w.heap.size, 0, none⟩) hlw).trans x0); (have hl2 := Nat.lt_of_lt_of_le hlw hb2.size); clear hb2 CM)
      | (go_at_call 34; refine (HCD.out w2 H2.out).mono ?_; rw [HDD.out]; rintro e w3 ⟨mb, n, rfl, hK, hb3⟩; (have HK : Hid (Km w3 mb n q) := hK); (have H3 : Hid (Below w.heap.size w w3) := H2.out.trans (hb3.mono H2.out.size)); (have x3 := (hb3.cell (p := ⟨w.heap.size, 0, none⟩) hl2).trans x2); (have hl3 := Nat.lt_of_lt_of_le hl2 hb3.size); clear hb3 hK)
      | (go_at_call 35; (have hb4 : Below w3.heap.size w3 (w3.alloc (.cells #[.map (some mb)] 76)) := (Below.refl _ w3).alloc (Nat.le_refl _) _); (have H4 : Hid (Below w.heap.size w (w3.alloc (.cells #[.map (some mb)] 76))) := H3.out.trans (hb4.mono H3.out.size)); refine (HCA.out _ w.heap.size w3.heap.size mb n H4.out (HK.out.below hb4) ((hb4.cell (p := ⟨w.heap.size, 0, none⟩) hl3).trans x3) (World.cell?_alloc_new _ _ _ _) (Nat.lt_of_lt_of_le hl3 hb4.size) (by simp)).mono ?_; rintro e w5 hR; obtain ⟨he, hb5⟩ : e = .returned (.tuple #[.int .i64 0, .agg #[.int .i64 er, .int .i64 ea]]) ∧ Below (w3.alloc (.cells #[.map (some mb)] 76)).heap.size (w3.alloc (.cells #[.map (some mb)] 76)) w5 := hR; subst he; (have H5 : Hid (Below w.heap.size w w5) := H4.out.trans (hb5.mono H4.out.size)); clear hb5 hb4))
    have hl5 := H5.out.size
    have j0 : (w5.alloc (.cells #[.int .i64 er, .int .i64 ea] 63)).cell? ⟨w5.heap.size, 0, none⟩ = some (.int .i64 er) := World.cell?_alloc_new _ _ _ 0
    have j1 : (w5.alloc (.cells #[.int .i64 er, .int .i64 ea] 63)).cell? ⟨w5.heap.size, 1, none⟩ = some (.int .i64 ea) := World.cell?_alloc_new _ _ _ 1
    have H6 : Hid (Below w.heap.size w (w5.alloc (.cells #[.int .i64 er, .int .i64 ea] 63))) := H5.out.alloc H5.out.size _
    generalize w5.alloc (.cells #[.int .i64 er, .int .i64 ea] 63) = W6 at *
    go_region
    all_goals
      go_wp2
      refine bodyPost_ret (v := .tuple #[.int .i64 0, .int .i64 er, .int .i64 ea]) (by simp [results, Tryz.results17, go_sem]) rfl ?_
      rw [HV.out]
      first | exact ⟨rfl, H6.out.drew⟩ | exact ⟨rfl, H6.out⟩
  · exact absurd rfl hro

/-- Check, of every parts and declarations -/
theorem Check_any {w : World} {B : Nat} {xv dv : Value} {l : List P10} {ds : List D10} (hE : Es w xv l) (hg : Gx B w) (hB : B ≤ w.heap.size) (hD : Ds w dv ds) (hsz : ∀ p ∈ l, p.2.2.2.2.2.length ≤ 4611686018427387904) (hn : l.length ≤ 4611686018427387904) (hdn : ds.length ≤ 4611686018427387904) (hdz : ∀ d ∈ ds, d.1.size ≤ 4611686018427387904) : Calls Tryz.prog 17 #[xv, dv] w fun e w' => e = .returned (.tuple #[.int .i64 (chkE l ds).1, .int .i64 (chkE l ds).2.1, .int .i64 (chkE l ds).2.2]) ∧ Below w.heap.size w w' := by
  cases hm : mayE l with
  | false => exact Check_form hE hg hB hD hsz hn hm
  | true => cases hd : dcl ds (fun _ => none) with
    | none => exact Check_arg hE hg hB hD hsz hn hm hdn hdz hd
    | some q => exact Check_go hE hg hB hD hsz hn hm hdn hdz hd
end Go.Proofs.YtpbfdaijnndilaaGreatDoor.x10

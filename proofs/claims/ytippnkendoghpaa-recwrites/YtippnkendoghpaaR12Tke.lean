/-
  Package rec's Take and May: what they come to; the document's examples.
-/
import Derived.Test.YtippnkendoghpaaR12Byt
namespace Go.Proofs.Ytippnkendoghpaa.r12
open Go.RowKit Go.Shelf Go.Sort
open Go.Lib hiding intOf

theorem p12_of (s : List UInt8) : (if (P11 tt s).2.2 = 0 then (tlR (P11 tt s).2.1).1 else []) = (P12 tt s).1 := by
  unfold P12
  generalize P11 tt s = p
  by_cases h : p.2.2 = 0
  · rw [if_pos h, if_pos h]
  · rw [if_neg h, if_neg h]
theorem chn_ex (s : List UInt8) : ∃ c : Chn s, c.rc (if c.e11 = 0 then (tlR c.l11).1 else []) = rdR tt s ∧ (if c.e11 = 0 then (tlR c.l11).1 else []) = (rdR tt s).v := by
  have H0 : rdB s 0 = ((P0 s).1, (P0 s).2.1, (P0 s).2.2) := eta3 (P0 s)
  have H1 : rdB (P0 s).2.1 (P0 s).2.2 = ((P1 s).1, (P1 s).2.1, (P1 s).2.2) := eta3 (P1 s)
  have H2 : rdU (P1 s).2.1 (P1 s).2.2 = ((P2 s).1, (P2 s).2.1, (P2 s).2.2) := eta3 (P2 s)
  have H3 : rdU (P2 s).2.1 (P2 s).2.2 = ((P3 s).1, (P3 s).2.1, (P3 s).2.2) := eta3 (P3 s)
  have H4 : rdU (P3 s).2.1 (P3 s).2.2 = ((P4 s).1, (P4 s).2.1, (P4 s).2.2) := eta3 (P4 s)
  have H5 : rdU (P4 s).2.1 (P4 s).2.2 = ((P5 s).1, (P5 s).2.1, (P5 s).2.2) := eta3 (P5 s)
  have H6 : rdU (P5 s).2.1 (P5 s).2.2 = ((P6 s).1, (P6 s).2.1, (P6 s).2.2) := eta3 (P6 s)
  have H7 : rdU (P6 s).2.1 (P6 s).2.2 = ((P7 s).1, (P7 s).2.1, (P7 s).2.2) := eta3 (P7 s)
  have H8 : rdU (P7 s).2.1 (P7 s).2.2 = ((P8 s).1, (P8 s).2.1, (P8 s).2.2) := eta3 (P8 s)
  have H9 : rdT 4096 (P8 s).2.1 (P8 s).2.2 = ((P9 tt s).1, (P9 tt s).2.1, (P9 tt s).2.2) := eta3 (P9 tt s)
  have H10 : rdT 4096 (P9 tt s).2.1 (P9 tt s).2.2 = ((P10 tt s).1, (P10 tt s).2.1, (P10 tt s).2.2) := eta3 (P10 tt s)
  have H11 : rdT 4096 (P10 tt s).2.1 (P10 tt s).2.2 = ((P11 tt s).1, (P11 tt s).2.1, (P11 tt s).2.2) := eta3 (P11 tt s)
  obtain ⟨n0, n1, n2, n3, n4, n5, n6, n7, n8, n9, n10, n11⟩ := P_len tt s
  have b0 : (P0 s).1 < 256 := by unfold P0; exact rdB_len.2
  have b1 : (P1 s).1 < 256 := by unfold P1; exact rdB_len.2
  unfold rdR
  rw [← p12_of s]
  generalize (P0 s).1 = u0 at *
  generalize (P0 s).2.1 = l0 at *
  generalize (P0 s).2.2 = e0 at *
  generalize (P1 s).1 = u1 at *
  generalize (P1 s).2.1 = l1 at *
  generalize (P1 s).2.2 = e1 at *
  generalize (P2 s).1 = u2 at *
  generalize (P2 s).2.1 = l2 at *
  generalize (P2 s).2.2 = e2 at *
  generalize (P3 s).1 = u3 at *
  generalize (P3 s).2.1 = l3 at *
  generalize (P3 s).2.2 = e3 at *
  generalize (P4 s).1 = u4 at *
  generalize (P4 s).2.1 = l4 at *
  generalize (P4 s).2.2 = e4 at *
  generalize (P5 s).1 = u5 at *
  generalize (P5 s).2.1 = l5 at *
  generalize (P5 s).2.2 = e5 at *
  generalize (P6 s).1 = u6 at *
  generalize (P6 s).2.1 = l6 at *
  generalize (P6 s).2.2 = e6 at *
  generalize (P7 s).1 = u7 at *
  generalize (P7 s).2.1 = l7 at *
  generalize (P7 s).2.2 = e7 at *
  generalize (P8 s).1 = u8 at *
  generalize (P8 s).2.1 = l8 at *
  generalize (P8 s).2.2 = e8 at *
  generalize (P9 tt s).1 = u9 at *
  generalize (P9 tt s).2.1 = l9 at *
  generalize (P9 tt s).2.2 = e9 at *
  generalize (P10 tt s).1 = u10 at *
  generalize (P10 tt s).2.1 = l10 at *
  generalize (P10 tt s).2.2 = e10 at *
  generalize (P11 tt s).1 = u11 at *
  generalize (P11 tt s).2.1 = l11 at *
  generalize (P11 tt s).2.2 = e11 at *
  exact ⟨⟨u0, l0, e0, u1, l1, e1, u2, l2, e2, u3, l3, e3, u4, l4, e4, u5, l5, e5, u6, l6, e6, u7, l7, e7, u8, l8, e8, u9, l9, e9, u10, l10, e10, u11, l11, e11, H0, n0, H1, n1, H2, n2, H3, n3, H4, n4, H5, n5, H6, n6, H7, n7, H8, n8, H9, n9, H10, n10, H11, n11, b0, b1⟩, rfl, rfl⟩
theorem Is.rd {s : List UInt8} {r : R12} (h : Is s r) : rdR tt s = r := by
  have l1 := h.may.la
  have b := back h.k h.may.1 (t := tt) (by unfold tt; simp only; omega) (by unfold tt; simp only; omega) (by unfold tt; simp only; omega) []
  rw [List.append_nil, h.eq] at b
  exact b.1
theorem Fds.up {w0 w w' : World} {rb fb : Nat} {X : List Nat} (h : Fds w0 w rb fb X) (hb : Below w.heap.size w w') : Fds w0 w' rb fb X := by
  obtain ⟨h1, h2, h3⟩ := h
  refine ⟨bel_of h1 hb (Nat.le_refl _), ⟨h2.1, Nat.lt_of_lt_of_le h2.2 hb.size⟩, fun j hj => ?_⟩
  obtain ⟨⟨x1, x2⟩, x3, x4, x5⟩ := h3 j hj
  exact ⟨⟨x1, Nat.lt_of_lt_of_le x2 hb.size⟩, (hb.cell (p := ⟨X.getD j 0, 0, none⟩) x2).trans x3, (hb.cell (p := ⟨fb, j * 2, none⟩) h2.2).trans x4, (hb.cell (p := ⟨fb, j * 2 + 1, none⟩) h2.2).trans x5⟩
theorem vs_ch {w w' : World} {rb : Nat} {cs : Array Value} {vv : Value} {L : List Vr} (hr : Rx w rb cs) (hp : Np cs) (hv : Vs w vv L) (hch : Ch (fun b => b = rb) w w') : Vs w' vv L := by
  obtain ⟨a, cap, rfl, hc, h⟩ := hv
  refine ⟨a, cap, rfl, hc, ?_⟩
  rcases h with h | ⟨b, off, rfl, hlt, hcell⟩
  · exact .inl h
  · by_cases hL : L = []
    · exact .inl hL
    · have hpos : 0 < L.length := List.length_pos_iff.2 hL
      have hne : b ≠ rb := fun e => by
        subst e
        have h0 := hcell 0 hpos
        exact hp _ _ _ (hr.of_cell h0.1) (hr.of_cell h0.2.1)
      exact .inr ⟨b, off, rfl, Nat.lt_of_lt_of_le hlt hch.size, fun j hj => ⟨hch.cell (hcell j hj).1 hne, hch.cell (hcell j hj).2.1 hne, hch.cell (hcell j hj).2.2.1 hne, hch.cell (hcell j hj).2.2.2 hne⟩⟩
theorem np0 : Np X0 := fun o t n h1 h2 => by
  unfold X0 at h1 h2
  match o with
  | 0 => first | (simp at h1; done) | (simp at h2; done)
  | 1 => first | (simp at h1; done) | (simp at h2; done)
  | 2 => first | (simp at h1; done) | (simp at h2; done)
  | 3 => first | (simp at h1; done) | (simp at h2; done)
  | 4 => first | (simp at h1; done) | (simp at h2; done)
  | 5 => first | (simp at h1; done) | (simp at h2; done)
  | 6 => first | (simp at h1; done) | (simp at h2; done)
  | 7 => first | (simp at h1; done) | (simp at h2; done)
  | 8 => first | (simp at h1; done) | (simp at h2; done)
  | 9 => first | (simp at h1; done) | (simp at h2; done)
  | 10 => first | (simp at h1; done) | (simp at h2; done)
  | 11 => first | (simp at h1; done) | (simp at h2; done)
  | 12 => first | (simp at h1; done) | (simp at h2; done)
  | o + 13 => simp at h1
/-- what taking comes to -/
def TkR (s : List UInt8) (e : Ending) (w' : World) : Prop := (∃ r a n c, Is s r ∧ e = .returned (.tuple #[rV r (.slice a n c), .int .i64 0]) ∧ Vs w' (.slice a n c) r.v) ∨ ((∀ r, ¬ Is s r) ∧ e = .returned (.tuple #[rV r0 (.slice none 0 0), .int .i64 3]))
/-- what stands when the bytes are read: the record in the second block, the result's in the first -/
structure Tq (w w5 : World) (A : Nat) (r : R12) (vv : Value) : Prop where
  bel : Below A w w5
  res : Rx w5 A X0
  rc : Rx w5 (A + 1) (rC r vv)
  vs : Vs w5 vv r.v
theorem Tq.up {w w5 w6 : World} {A : Nat} {r : R12} {vv : Value} (h : Tq w w5 A r vv) (hA : A = w.heap.size) (hb : Below w5.heap.size w5 w6) : Tq w w6 A r vv := by
  subst hA
  exact ⟨bel_of h.bel hb (Nat.le_refl _), h.res.up hb, h.rc.up hb, h.vs.up hb⟩
theorem tq_of {w w2 w3 w4 : World} {s : List UInt8} {fb : Nat} {X : List Nat} (hF : Fds ((w.alloc (.cells #[.int .i64 0, .int .i64 0, .int .u64 0, .int .i64 0, .int .u64 0, .int .u64 0, .int .u64 0, .int .i64 0, .int .i64 0, .string ⟨#[]⟩, .string ⟨#[]⟩, .string ⟨#[]⟩, .slice none 0 0] 25)).alloc (.cells #[.int .i64 0, .int .i64 0, .int .u64 0, .int .i64 0, .int .u64 0, .int .u64 0, .int .u64 0, .int .i64 0, .int .i64 0, .string ⟨#[]⟩, .string ⟨#[]⟩, .string ⟨#[]⟩, .slice none 0 0] 25)) w2 (w.heap.size + 1) fb X) (hb : Below w2.heap.size w2 w3) (hch : Ch (fun b => b = w2.heap.size ∨ b = w.heap.size + 1) w3 w4) {vv : Value} (hv : Vs w4 vv (rdR tt s).v) (hr : Rx w4 (w.heap.size + 1) (rC (rdR tt s) vv)) : Tq w w4 w.heap.size (rdR tt s) vv := by
  have z2 := hF.1.size
  have z3 := hb.size
  simp only [World.size_alloc] at z2
  have R0 : Rx ((w.alloc (.cells #[.int .i64 0, .int .i64 0, .int .u64 0, .int .i64 0, .int .u64 0, .int .u64 0, .int .u64 0, .int .i64 0, .int .i64 0, .string ⟨#[]⟩, .string ⟨#[]⟩, .string ⟨#[]⟩, .slice none 0 0] 25)).alloc (.cells #[.int .i64 0, .int .i64 0, .int .u64 0, .int .i64 0, .int .u64 0, .int .u64 0, .int .u64 0, .int .i64 0, .int .i64 0, .string ⟨#[]⟩, .string ⟨#[]⟩, .string ⟨#[]⟩, .slice none 0 0] 25)) w.heap.size X0 := rx_alloc (Rx.new w _) _
  have h3 : Rx w3 w.heap.size X0 := (R0.up hF.1).up hb
  have B0 : Below w.heap.size w ((w.alloc (.cells #[.int .i64 0, .int .i64 0, .int .u64 0, .int .i64 0, .int .u64 0, .int .u64 0, .int .u64 0, .int .i64 0, .int .i64 0, .string ⟨#[]⟩, .string ⟨#[]⟩, .string ⟨#[]⟩, .slice none 0 0] 25)).alloc (.cells #[.int .i64 0, .int .i64 0, .int .u64 0, .int .i64 0, .int .u64 0, .int .u64 0, .int .u64 0, .int .i64 0, .int .i64 0, .string ⟨#[]⟩, .string ⟨#[]⟩, .string ⟨#[]⟩, .slice none 0 0] 25)) := ((Below.refl _ w).alloc (Nat.le_refl _) _).alloc (by rw [World.size_alloc]; omega) _
  have B3 : Below w.heap.size w w3 := bel_of (bel_of B0 hF.1 (Nat.le_refl _)) hb (Nat.le_refl _)
  exact ⟨B3.trans (hch.below (by omega) (fun k hk e => by omega)), hch.obj h3 (fun e => by omega), hr, hv⟩
theorem taken_at {w w2 w3 : World} {s : List UInt8} {fb : Nat} {X : List Nat} (hs : s.length ≤ 140737488355328) (hF : Fds ((w.alloc (.cells #[.int .i64 0, .int .i64 0, .int .u64 0, .int .i64 0, .int .u64 0, .int .u64 0, .int .u64 0, .int .i64 0, .int .i64 0, .string ⟨#[]⟩, .string ⟨#[]⟩, .string ⟨#[]⟩, .slice none 0 0] 25)).alloc (.cells #[.int .i64 0, .int .i64 0, .int .u64 0, .int .i64 0, .int .u64 0, .int .u64 0, .int .u64 0, .int .i64 0, .int .i64 0, .string ⟨#[]⟩, .string ⟨#[]⟩, .string ⟨#[]⟩, .slice none 0 0] 25)) w2 (w.heap.size + 1) fb X) (hd : Rd w3 w2.heap.size s 0) (hb : Below w2.heap.size w2 w3) :
    Calls Try.prog 25 #[.slice (some ⟨fb, 0, none⟩) 13 13, .pointer (some ⟨w2.heap.size, 0, none⟩)] w3 fun e w' => (∃ v, e = .returned v) ∧ ∃ a n c, Tq w w' w.heap.size (rdR tt s) (.slice a n c) := by
  have z2 := hF.1.size
  simp only [World.size_alloc] at z2
  have hR : Rx w3 (w.heap.size + 1) X0 := ((show Rx ((w.alloc (.cells #[.int .i64 0, .int .i64 0, .int .u64 0, .int .i64 0, .int .u64 0, .int .u64 0, .int .u64 0, .int .i64 0, .int .i64 0, .string ⟨#[]⟩, .string ⟨#[]⟩, .string ⟨#[]⟩, .slice none 0 0] 25)).alloc (.cells #[.int .i64 0, .int .i64 0, .int .u64 0, .int .i64 0, .int .u64 0, .int .u64 0, .int .u64 0, .int .i64 0, .int .i64 0, .string ⟨#[]⟩, .string ⟨#[]⟩, .string ⟨#[]⟩, .slice none 0 0] 25)) (w.heap.size + 1) X0 from by have := Rx.new (w.alloc (.cells #[.int .i64 0, .int .i64 0, .int .u64 0, .int .i64 0, .int .u64 0, .int .u64 0, .int .u64 0, .int .i64 0, .int .i64 0, .string ⟨#[]⟩, .string ⟨#[]⟩, .string ⟨#[]⟩, .slice none 0 0] 25)) #[.int .i64 0, .int .i64 0, .int .u64 0, .int .i64 0, .int .u64 0, .int .u64 0, .int .u64 0, .int .i64 0, .int .i64 0, .string ⟨#[]⟩, .string ⟨#[]⟩, .string ⟨#[]⟩, .slice none 0 0]; rw [World.size_alloc] at this; exact this).up hF.1).up hb
  have hf := hF.2.1
  obtain ⟨cc, hc1, hc2⟩ := chn_ex s
  refine (takenR cc hs (hF.up hb) hR hd (by simp) (.inr fun j hj => (hF.2.2 j hj).1.2) (by omega) (by omega)).mono ?_
  rintro e w' ⟨he, hch, vv, hv, hr⟩
  rw [hc1] at hr
  rw [hc2] at hv
  have hv' := hv
  obtain ⟨a, c, rfl, -⟩ := hv'
  exact ⟨he, a, _, c, tq_of hF hb hch hv hr⟩

set_option maxHeartbeats 4000000 in
set_option maxRecDepth 100000 in
theorem Take_a {s : List UInt8} {w : World} (hs : s.length ≤ 140737488355328) (hm : May (rdR tt s)) (he : bytR (rdR tt s) = s) : Calls Try.prog 15 #[.string (S s)] w fun e w' => TkR s e w' ∧ Below w.heap.size w w' := by
  have HP : Hid (∀ e w' a n c, e = .returned (.tuple #[rV (rdR tt s) (.slice a n c), .int .i64 0]) → Vs w' (.slice a n c) (rdR tt s).v → TkR s e w') := fun e w' a n c q1 q2 => .inl ⟨_, a, n, c, ⟨hm, rdR_k tt hs, he⟩, q1, q2⟩
  have HT : Hid (∀ w2 w3 fb X, Fds ((w.alloc (.cells #[.int .i64 0, .int .i64 0, .int .u64 0, .int .i64 0, .int .u64 0, .int .u64 0, .int .u64 0, .int .i64 0, .int .i64 0, .string ⟨#[]⟩, .string ⟨#[]⟩, .string ⟨#[]⟩, .slice none 0 0] 25)).alloc (.cells #[.int .i64 0, .int .i64 0, .int .u64 0, .int .i64 0, .int .u64 0, .int .u64 0, .int .u64 0, .int .i64 0, .int .i64 0, .string ⟨#[]⟩, .string ⟨#[]⟩, .string ⟨#[]⟩, .slice none 0 0] 25)) w2 (w.heap.size + 1) fb X → Rd w3 w2.heap.size s 0 → Below w2.heap.size w2 w3 → Calls Try.prog 25 #[.slice (some ⟨fb, 0, none⟩) 13 13, .pointer (some ⟨w2.heap.size, 0, none⟩)] w3 fun e w' => (∃ v, e = .returned v) ∧ ∃ a n c, Tq w w' w.heap.size (rdR tt s) (.slice a n c)) := fun w2 w3 fb X q1 q2 q3 => taken_at hs q1 q2 q3
  have hk : Rk (rdR tt s) := rdR_k tt hs
  have hse : ((S (bytR (rdR tt s))).toList == (S s).toList) = true := by rw [he]; exact beq_self_eq_true _
  clear he
  have HB : Hid (∀ w4 a n c, Tq w w4 w.heap.size (rdR tt s) (.slice a n c) → Calls Try.prog 9 #[rV (rdR tt s) (.slice a n c)] w4 fun e w' => e = .returned (.tuple #[.string (S (bytR (rdR tt s))), .int .i64 0]) ∧ Tq w w' w.heap.size (rdR tt s) (.slice a n c)) := fun w4 a n c q => (Bytes_yes q.vs hk hm).mono fun e w' hh => ⟨hh.1, q.up rfl hh.2⟩
  clear hk hm
  generalize rdR tt s = r at *
  generalize S (bytR r) = bs at *
  obtain ⟨cl, kd, fr, tm, k1, k2, k3, n, m, a, b, c, l⟩ := r
  unfold rV at HB
  unfold rC at HB
  simp only at HB
  go_enter Try.func15, Try.ntmps15
  go_wp2_with (first
    | (go_at_call 19; refine (fields_any (w.heap.size + 1) _).mono ?_; rintro e w2 ⟨fb, X, rfl, hF⟩; have F2 : Hid (Fds ((w.alloc (.cells #[.int .i64 0, .int .i64 0, .int .u64 0, .int .i64 0, .int .u64 0, .int .u64 0, .int .u64 0, .int .i64 0, .int .i64 0, .string ⟨#[]⟩, .string ⟨#[]⟩, .string ⟨#[]⟩, .slice none 0 0] 25)).alloc (.cells #[.int .i64 0, .int .i64 0, .int .u64 0, .int .i64 0, .int .u64 0, .int .u64 0, .int .u64 0, .int .i64 0, .int .i64 0, .string ⟨#[]⟩, .string ⟨#[]⟩, .string ⟨#[]⟩, .slice none 0 0] 25)) w2 (w.heap.size + 1) fb X) := hF; clear hF)
    | (go_at_call 26; refine (Read_any s w2).mono ?_; rintro e w3 ⟨rfl, d3, b3⟩; have CT := HT.out w2 w3 fb X F2.out d3 b3; clear d3 b3 F2 HT)
    | (go_at_call 25; refine CT.mono ?_; rintro e w4 ⟨⟨v4, rfl⟩, va, vl, vc, tq⟩; (have T4 : Hid (Tq w w4 w.heap.size ⟨cl, kd, fr, tm, k1, k2, k3, n, m, a, b, c, l⟩ (.slice va vl vc)) := tq); (have c0 := tq.rc.cell (k := 0) (v := .int .i64 cl) rfl); (have c1 := tq.rc.cell (k := 1) (v := .int .i64 kd) rfl); (have c2 := tq.rc.cell (k := 2) (v := .int .u64 (fr : Int)) rfl); (have c3 := tq.rc.cell (k := 3) (v := .int .i64 tm) rfl); (have c4 := tq.rc.cell (k := 4) (v := .int .u64 (k1 : Int)) rfl); (have c5 := tq.rc.cell (k := 5) (v := .int .u64 (k2 : Int)) rfl); (have c6 := tq.rc.cell (k := 6) (v := .int .u64 (k3 : Int)) rfl); (have c7 := tq.rc.cell (k := 7) (v := .int .i64 n) rfl); (have c8 := tq.rc.cell (k := 8) (v := .int .i64 m) rfl); (have c9 := tq.rc.cell (k := 9) (v := .string (S a)) rfl); (have c10 := tq.rc.cell (k := 10) (v := .string (S b)) rfl); (have c11 := tq.rc.cell (k := 11) (v := .string (S c)) rfl); (have c12 := tq.rc.cell (k := 12) (v := .slice va vl vc) rfl); (have CB := HB.out w4 va vl vc tq); clear tq CT HB)
    | (go_at_call 9; refine CB.mono ?_; rintro e w5 ⟨rfl, tq⟩; (have T5 : Hid (Tq w w5 w.heap.size ⟨cl, kd, fr, tm, k1, k2, k3, n, m, a, b, c, l⟩ (.slice va vl vc)) := tq); clear c0 c1 c2 c3 c4 c5 c6 c7 c8 c9 c10 c11 c12; (have c0 := tq.rc.cell (k := 0) (v := .int .i64 cl) rfl); (have c1 := tq.rc.cell (k := 1) (v := .int .i64 kd) rfl); (have c2 := tq.rc.cell (k := 2) (v := .int .u64 (fr : Int)) rfl); (have c3 := tq.rc.cell (k := 3) (v := .int .i64 tm) rfl); (have c4 := tq.rc.cell (k := 4) (v := .int .u64 (k1 : Int)) rfl); (have c5 := tq.rc.cell (k := 5) (v := .int .u64 (k2 : Int)) rfl); (have c6 := tq.rc.cell (k := 6) (v := .int .u64 (k3 : Int)) rfl); (have c7 := tq.rc.cell (k := 7) (v := .int .i64 n) rfl); (have c8 := tq.rc.cell (k := 8) (v := .int .i64 m) rfl); (have c9 := tq.rc.cell (k := 9) (v := .string (S a)) rfl); (have c10 := tq.rc.cell (k := 10) (v := .string (S b)) rfl); (have c11 := tq.rc.cell (k := 11) (v := .string (S c)) rfl); (have c12 := tq.rc.cell (k := 12) (v := .slice va vl vc) rfl); (have g0 := T5.out.res.cell (k := 0) (v := .int .i64 0) rfl); (have f0 := T5.out.res.fro 0); (have g1 := T5.out.res.cell (k := 1) (v := .int .i64 0) rfl); (have f1 := T5.out.res.fro 1); (have g2 := T5.out.res.cell (k := 2) (v := .int .u64 0) rfl); (have f2 := T5.out.res.fro 2); (have g3 := T5.out.res.cell (k := 3) (v := .int .i64 0) rfl); (have f3 := T5.out.res.fro 3); (have g4 := T5.out.res.cell (k := 4) (v := .int .u64 0) rfl); (have f4 := T5.out.res.fro 4); (have g5 := T5.out.res.cell (k := 5) (v := .int .u64 0) rfl); (have f5 := T5.out.res.fro 5); (have g6 := T5.out.res.cell (k := 6) (v := .int .u64 0) rfl); (have f6 := T5.out.res.fro 6); (have g7 := T5.out.res.cell (k := 7) (v := .int .i64 0) rfl); (have f7 := T5.out.res.fro 7); (have g8 := T5.out.res.cell (k := 8) (v := .int .i64 0) rfl); (have f8 := T5.out.res.fro 8); (have g9 := T5.out.res.cell (k := 9) (v := .string ⟨#[]⟩) rfl); (have f9 := T5.out.res.fro 9); (have g10 := T5.out.res.cell (k := 10) (v := .string ⟨#[]⟩) rfl); (have f10 := T5.out.res.fro 10); (have g11 := T5.out.res.cell (k := 11) (v := .string ⟨#[]⟩) rfl); (have f11 := T5.out.res.fro 11); (have g12 := T5.out.res.cell (k := 12) (v := .slice none 0 0) rfl); (have f12 := T5.out.res.fro 12); clear tq CB))
  exact bodyPost_ret (v := .tuple #[.agg #[.int .i64 cl, .int .i64 kd, .int .u64 (fr : Int), .int .i64 tm, .int .u64 (k1 : Int), .int .u64 (k2 : Int), .int .u64 (k3 : Int), .int .i64 n, .int .i64 m, .string (S a), .string (S b), .string (S c), .slice va vl vc], .int .i64 0]) (by simp [results, Try.results15, go_sem, g0, g1, g2, g3, g4, g5, g6, g7, g8, g9, g10, g11, g12]) rfl ⟨HP.out _ _ va vl vc rfl (vs_ch T5.out.res np0 T5.out.vs ((((((((((((((Ch.refl (fun b => b = w.heap.size) _).setCell ⟨w.heap.size, 0, none⟩ _ (fun _ => rfl)).setCell ⟨w.heap.size, 1, none⟩ _ (fun _ => rfl)).setCell ⟨w.heap.size, 2, none⟩ _ (fun _ => rfl)).setCell ⟨w.heap.size, 3, none⟩ _ (fun _ => rfl)).setCell ⟨w.heap.size, 4, none⟩ _ (fun _ => rfl)).setCell ⟨w.heap.size, 5, none⟩ _ (fun _ => rfl)).setCell ⟨w.heap.size, 6, none⟩ _ (fun _ => rfl)).setCell ⟨w.heap.size, 7, none⟩ _ (fun _ => rfl)).setCell ⟨w.heap.size, 8, none⟩ _ (fun _ => rfl)).setCell ⟨w.heap.size, 9, none⟩ _ (fun _ => rfl)).setCell ⟨w.heap.size, 10, none⟩ _ (fun _ => rfl)).setCell ⟨w.heap.size, 11, none⟩ _ (fun _ => rfl)).setCell ⟨w.heap.size, 12, none⟩ _ (fun _ => rfl))), T5.out.bel.trans ((((((((((((((((Ch.refl (fun b => b = w.heap.size) _).setCell ⟨w.heap.size, 0, none⟩ _ (fun _ => rfl)).setCell ⟨w.heap.size, 1, none⟩ _ (fun _ => rfl)).setCell ⟨w.heap.size, 2, none⟩ _ (fun _ => rfl)).setCell ⟨w.heap.size, 3, none⟩ _ (fun _ => rfl)).setCell ⟨w.heap.size, 4, none⟩ _ (fun _ => rfl)).setCell ⟨w.heap.size, 5, none⟩ _ (fun _ => rfl)).setCell ⟨w.heap.size, 6, none⟩ _ (fun _ => rfl)).setCell ⟨w.heap.size, 7, none⟩ _ (fun _ => rfl)).setCell ⟨w.heap.size, 8, none⟩ _ (fun _ => rfl)).setCell ⟨w.heap.size, 9, none⟩ _ (fun _ => rfl)).setCell ⟨w.heap.size, 10, none⟩ _ (fun _ => rfl)).setCell ⟨w.heap.size, 11, none⟩ _ (fun _ => rfl)).setCell ⟨w.heap.size, 12, none⟩ _ (fun _ => rfl)) : Ch (fun b => b = w.heap.size) _ _).below T5.out.bel.size (fun k hk e => by omega))⟩

set_option maxHeartbeats 4000000 in
set_option maxRecDepth 100000 in
theorem Take_b {s : List UInt8} {w : World} (hs : s.length ≤ 140737488355328) (hm : May (rdR tt s)) (he : bytR (rdR tt s) ≠ s) (hno : ∀ r, ¬ Is s r) : Calls Try.prog 15 #[.string (S s)] w fun e w' => TkR s e w' ∧ Below w.heap.size w w' := by
  have HP : Hid (∀ e w', e = .returned (.tuple #[rV r0 (.slice none 0 0), .int .i64 3]) → TkR s e w') := fun e w' q1 => .inr ⟨hno, q1⟩
  have HT : Hid (∀ w2 w3 fb X, Fds ((w.alloc (.cells #[.int .i64 0, .int .i64 0, .int .u64 0, .int .i64 0, .int .u64 0, .int .u64 0, .int .u64 0, .int .i64 0, .int .i64 0, .string ⟨#[]⟩, .string ⟨#[]⟩, .string ⟨#[]⟩, .slice none 0 0] 25)).alloc (.cells #[.int .i64 0, .int .i64 0, .int .u64 0, .int .i64 0, .int .u64 0, .int .u64 0, .int .u64 0, .int .i64 0, .int .i64 0, .string ⟨#[]⟩, .string ⟨#[]⟩, .string ⟨#[]⟩, .slice none 0 0] 25)) w2 (w.heap.size + 1) fb X → Rd w3 w2.heap.size s 0 → Below w2.heap.size w2 w3 → Calls Try.prog 25 #[.slice (some ⟨fb, 0, none⟩) 13 13, .pointer (some ⟨w2.heap.size, 0, none⟩)] w3 fun e w' => (∃ v, e = .returned v) ∧ ∃ a n c, Tq w w' w.heap.size (rdR tt s) (.slice a n c)) := fun w2 w3 fb X q1 q2 q3 => taken_at hs q1 q2 q3
  have hk : Rk (rdR tt s) := rdR_k tt hs
  have hse : ((S (bytR (rdR tt s))).toList == (S s).toList) = false := by rw [S_toList, S_toList]; exact beq_eq_false_iff_ne.2 he
  clear he hno
  have HB : Hid (∀ w4 a n c, Tq w w4 w.heap.size (rdR tt s) (.slice a n c) → Calls Try.prog 9 #[rV (rdR tt s) (.slice a n c)] w4 fun e w' => e = .returned (.tuple #[.string (S (bytR (rdR tt s))), .int .i64 0]) ∧ Tq w w' w.heap.size (rdR tt s) (.slice a n c)) := fun w4 a n c q => (Bytes_yes q.vs hk hm).mono fun e w' hh => ⟨hh.1, q.up rfl hh.2⟩
  clear hk hm
  generalize rdR tt s = r at *
  generalize S (bytR r) = bs at *
  obtain ⟨cl, kd, fr, tm, k1, k2, k3, n, m, a, b, c, l⟩ := r
  unfold rV at HB
  unfold rC at HB
  simp only at HB
  go_enter Try.func15, Try.ntmps15
  go_wp2_with (first
    | (go_at_call 19; refine (fields_any (w.heap.size + 1) _).mono ?_; rintro e w2 ⟨fb, X, rfl, hF⟩; have F2 : Hid (Fds ((w.alloc (.cells #[.int .i64 0, .int .i64 0, .int .u64 0, .int .i64 0, .int .u64 0, .int .u64 0, .int .u64 0, .int .i64 0, .int .i64 0, .string ⟨#[]⟩, .string ⟨#[]⟩, .string ⟨#[]⟩, .slice none 0 0] 25)).alloc (.cells #[.int .i64 0, .int .i64 0, .int .u64 0, .int .i64 0, .int .u64 0, .int .u64 0, .int .u64 0, .int .i64 0, .int .i64 0, .string ⟨#[]⟩, .string ⟨#[]⟩, .string ⟨#[]⟩, .slice none 0 0] 25)) w2 (w.heap.size + 1) fb X) := hF; clear hF)
    | (go_at_call 26; refine (Read_any s w2).mono ?_; rintro e w3 ⟨rfl, d3, b3⟩; have CT := HT.out w2 w3 fb X F2.out d3 b3; clear d3 b3 F2 HT)
    | (go_at_call 25; refine CT.mono ?_; rintro e w4 ⟨⟨v4, rfl⟩, va, vl, vc, tq⟩; (have T4 : Hid (Tq w w4 w.heap.size ⟨cl, kd, fr, tm, k1, k2, k3, n, m, a, b, c, l⟩ (.slice va vl vc)) := tq); (have c0 := tq.rc.cell (k := 0) (v := .int .i64 cl) rfl); (have c1 := tq.rc.cell (k := 1) (v := .int .i64 kd) rfl); (have c2 := tq.rc.cell (k := 2) (v := .int .u64 (fr : Int)) rfl); (have c3 := tq.rc.cell (k := 3) (v := .int .i64 tm) rfl); (have c4 := tq.rc.cell (k := 4) (v := .int .u64 (k1 : Int)) rfl); (have c5 := tq.rc.cell (k := 5) (v := .int .u64 (k2 : Int)) rfl); (have c6 := tq.rc.cell (k := 6) (v := .int .u64 (k3 : Int)) rfl); (have c7 := tq.rc.cell (k := 7) (v := .int .i64 n) rfl); (have c8 := tq.rc.cell (k := 8) (v := .int .i64 m) rfl); (have c9 := tq.rc.cell (k := 9) (v := .string (S a)) rfl); (have c10 := tq.rc.cell (k := 10) (v := .string (S b)) rfl); (have c11 := tq.rc.cell (k := 11) (v := .string (S c)) rfl); (have c12 := tq.rc.cell (k := 12) (v := .slice va vl vc) rfl); (have CB := HB.out w4 va vl vc tq); clear tq CT HB)
    | (go_at_call 9; refine CB.mono ?_; rintro e w5 ⟨rfl, tq⟩; (have T5 : Hid (Tq w w5 w.heap.size ⟨cl, kd, fr, tm, k1, k2, k3, n, m, a, b, c, l⟩ (.slice va vl vc)) := tq); clear c0 c1 c2 c3 c4 c5 c6 c7 c8 c9 c10 c11 c12; (have c0 := tq.rc.cell (k := 0) (v := .int .i64 cl) rfl); (have c1 := tq.rc.cell (k := 1) (v := .int .i64 kd) rfl); (have c2 := tq.rc.cell (k := 2) (v := .int .u64 (fr : Int)) rfl); (have c3 := tq.rc.cell (k := 3) (v := .int .i64 tm) rfl); (have c4 := tq.rc.cell (k := 4) (v := .int .u64 (k1 : Int)) rfl); (have c5 := tq.rc.cell (k := 5) (v := .int .u64 (k2 : Int)) rfl); (have c6 := tq.rc.cell (k := 6) (v := .int .u64 (k3 : Int)) rfl); (have c7 := tq.rc.cell (k := 7) (v := .int .i64 n) rfl); (have c8 := tq.rc.cell (k := 8) (v := .int .i64 m) rfl); (have c9 := tq.rc.cell (k := 9) (v := .string (S a)) rfl); (have c10 := tq.rc.cell (k := 10) (v := .string (S b)) rfl); (have c11 := tq.rc.cell (k := 11) (v := .string (S c)) rfl); (have c12 := tq.rc.cell (k := 12) (v := .slice va vl vc) rfl); (have g0 := T5.out.res.cell (k := 0) (v := .int .i64 0) rfl); (have f0 := T5.out.res.fro 0); (have g1 := T5.out.res.cell (k := 1) (v := .int .i64 0) rfl); (have f1 := T5.out.res.fro 1); (have g2 := T5.out.res.cell (k := 2) (v := .int .u64 0) rfl); (have f2 := T5.out.res.fro 2); (have g3 := T5.out.res.cell (k := 3) (v := .int .i64 0) rfl); (have f3 := T5.out.res.fro 3); (have g4 := T5.out.res.cell (k := 4) (v := .int .u64 0) rfl); (have f4 := T5.out.res.fro 4); (have g5 := T5.out.res.cell (k := 5) (v := .int .u64 0) rfl); (have f5 := T5.out.res.fro 5); (have g6 := T5.out.res.cell (k := 6) (v := .int .u64 0) rfl); (have f6 := T5.out.res.fro 6); (have g7 := T5.out.res.cell (k := 7) (v := .int .i64 0) rfl); (have f7 := T5.out.res.fro 7); (have g8 := T5.out.res.cell (k := 8) (v := .int .i64 0) rfl); (have f8 := T5.out.res.fro 8); (have g9 := T5.out.res.cell (k := 9) (v := .string ⟨#[]⟩) rfl); (have f9 := T5.out.res.fro 9); (have g10 := T5.out.res.cell (k := 10) (v := .string ⟨#[]⟩) rfl); (have f10 := T5.out.res.fro 10); (have g11 := T5.out.res.cell (k := 11) (v := .string ⟨#[]⟩) rfl); (have f11 := T5.out.res.fro 11); (have g12 := T5.out.res.cell (k := 12) (v := .slice none 0 0) rfl); (have f12 := T5.out.res.fro 12); clear tq CB))
  exact bodyPost_ret (v := .tuple #[.agg #[.int .i64 0, .int .i64 0, .int .u64 0, .int .i64 0, .int .u64 0, .int .u64 0, .int .u64 0, .int .i64 0, .int .i64 0, .string ⟨#[]⟩, .string ⟨#[]⟩, .string ⟨#[]⟩, .slice none 0 0], .int .i64 3]) (by simp [results, Try.results15, go_sem, g0, g1, g2, g3, g4, g5, g6, g7, g8, g9, g10, g11, g12]) rfl ⟨HP.out _ _ rfl, T5.out.bel.trans ((((((((((((((((Ch.refl (fun b => b = w.heap.size) _).setCell ⟨w.heap.size, 0, none⟩ _ (fun _ => rfl)).setCell ⟨w.heap.size, 1, none⟩ _ (fun _ => rfl)).setCell ⟨w.heap.size, 2, none⟩ _ (fun _ => rfl)).setCell ⟨w.heap.size, 3, none⟩ _ (fun _ => rfl)).setCell ⟨w.heap.size, 4, none⟩ _ (fun _ => rfl)).setCell ⟨w.heap.size, 5, none⟩ _ (fun _ => rfl)).setCell ⟨w.heap.size, 6, none⟩ _ (fun _ => rfl)).setCell ⟨w.heap.size, 7, none⟩ _ (fun _ => rfl)).setCell ⟨w.heap.size, 8, none⟩ _ (fun _ => rfl)).setCell ⟨w.heap.size, 9, none⟩ _ (fun _ => rfl)).setCell ⟨w.heap.size, 10, none⟩ _ (fun _ => rfl)).setCell ⟨w.heap.size, 11, none⟩ _ (fun _ => rfl)).setCell ⟨w.heap.size, 12, none⟩ _ (fun _ => rfl)) : Ch (fun b => b = w.heap.size) _ _).below T5.out.bel.size (fun k hk e => by omega))⟩

set_option maxHeartbeats 4000000 in
set_option maxRecDepth 100000 in
theorem Take_c {s : List UInt8} {w : World} (hs : s.length ≤ 140737488355328) (hm : ¬ May (rdR tt s)) (hno : ∀ r, ¬ Is s r) : Calls Try.prog 15 #[.string (S s)] w fun e w' => TkR s e w' ∧ Below w.heap.size w w' := by
  have HP : Hid (∀ e w', e = .returned (.tuple #[rV r0 (.slice none 0 0), .int .i64 3]) → TkR s e w') := fun e w' q1 => .inr ⟨hno, q1⟩
  have HT : Hid (∀ w2 w3 fb X, Fds ((w.alloc (.cells #[.int .i64 0, .int .i64 0, .int .u64 0, .int .i64 0, .int .u64 0, .int .u64 0, .int .u64 0, .int .i64 0, .int .i64 0, .string ⟨#[]⟩, .string ⟨#[]⟩, .string ⟨#[]⟩, .slice none 0 0] 25)).alloc (.cells #[.int .i64 0, .int .i64 0, .int .u64 0, .int .i64 0, .int .u64 0, .int .u64 0, .int .u64 0, .int .i64 0, .int .i64 0, .string ⟨#[]⟩, .string ⟨#[]⟩, .string ⟨#[]⟩, .slice none 0 0] 25)) w2 (w.heap.size + 1) fb X → Rd w3 w2.heap.size s 0 → Below w2.heap.size w2 w3 → Calls Try.prog 25 #[.slice (some ⟨fb, 0, none⟩) 13 13, .pointer (some ⟨w2.heap.size, 0, none⟩)] w3 fun e w' => (∃ v, e = .returned v) ∧ ∃ a n c, Tq w w' w.heap.size (rdR tt s) (.slice a n c)) := fun w2 w3 fb X q1 q2 q3 => taken_at hs q1 q2 q3
  have hk : Rk (rdR tt s) := rdR_k tt hs
  clear hno
  have HB : Hid (∀ w4 a n c, Tq w w4 w.heap.size (rdR tt s) (.slice a n c) → Calls Try.prog 9 #[rV (rdR tt s) (.slice a n c)] w4 fun e w' => e = .returned (.tuple #[.string ⟨#[]⟩, .int .i64 1]) ∧ Tq w w' w.heap.size (rdR tt s) (.slice a n c)) := fun w4 a n c q => (Bytes_no q.vs hk hm).mono fun e w' hh => ⟨hh.1, q.up rfl hh.2⟩
  clear hk hm
  generalize rdR tt s = r at *
  obtain ⟨cl, kd, fr, tm, k1, k2, k3, n, m, a, b, c, l⟩ := r
  unfold rV at HB
  unfold rC at HB
  simp only at HB
  go_enter Try.func15, Try.ntmps15
  go_wp2_with (first
    | (go_at_call 19; refine (fields_any (w.heap.size + 1) _).mono ?_; rintro e w2 ⟨fb, X, rfl, hF⟩; have F2 : Hid (Fds ((w.alloc (.cells #[.int .i64 0, .int .i64 0, .int .u64 0, .int .i64 0, .int .u64 0, .int .u64 0, .int .u64 0, .int .i64 0, .int .i64 0, .string ⟨#[]⟩, .string ⟨#[]⟩, .string ⟨#[]⟩, .slice none 0 0] 25)).alloc (.cells #[.int .i64 0, .int .i64 0, .int .u64 0, .int .i64 0, .int .u64 0, .int .u64 0, .int .u64 0, .int .i64 0, .int .i64 0, .string ⟨#[]⟩, .string ⟨#[]⟩, .string ⟨#[]⟩, .slice none 0 0] 25)) w2 (w.heap.size + 1) fb X) := hF; clear hF)
    | (go_at_call 26; refine (Read_any s w2).mono ?_; rintro e w3 ⟨rfl, d3, b3⟩; have CT := HT.out w2 w3 fb X F2.out d3 b3; clear d3 b3 F2 HT)
    | (go_at_call 25; refine CT.mono ?_; rintro e w4 ⟨⟨v4, rfl⟩, va, vl, vc, tq⟩; (have T4 : Hid (Tq w w4 w.heap.size ⟨cl, kd, fr, tm, k1, k2, k3, n, m, a, b, c, l⟩ (.slice va vl vc)) := tq); (have c0 := tq.rc.cell (k := 0) (v := .int .i64 cl) rfl); (have c1 := tq.rc.cell (k := 1) (v := .int .i64 kd) rfl); (have c2 := tq.rc.cell (k := 2) (v := .int .u64 (fr : Int)) rfl); (have c3 := tq.rc.cell (k := 3) (v := .int .i64 tm) rfl); (have c4 := tq.rc.cell (k := 4) (v := .int .u64 (k1 : Int)) rfl); (have c5 := tq.rc.cell (k := 5) (v := .int .u64 (k2 : Int)) rfl); (have c6 := tq.rc.cell (k := 6) (v := .int .u64 (k3 : Int)) rfl); (have c7 := tq.rc.cell (k := 7) (v := .int .i64 n) rfl); (have c8 := tq.rc.cell (k := 8) (v := .int .i64 m) rfl); (have c9 := tq.rc.cell (k := 9) (v := .string (S a)) rfl); (have c10 := tq.rc.cell (k := 10) (v := .string (S b)) rfl); (have c11 := tq.rc.cell (k := 11) (v := .string (S c)) rfl); (have c12 := tq.rc.cell (k := 12) (v := .slice va vl vc) rfl); (have CB := HB.out w4 va vl vc tq); clear tq CT HB)
    | (go_at_call 9; refine CB.mono ?_; rintro e w5 ⟨rfl, tq⟩; (have T5 : Hid (Tq w w5 w.heap.size ⟨cl, kd, fr, tm, k1, k2, k3, n, m, a, b, c, l⟩ (.slice va vl vc)) := tq); clear c0 c1 c2 c3 c4 c5 c6 c7 c8 c9 c10 c11 c12; (have c0 := tq.rc.cell (k := 0) (v := .int .i64 cl) rfl); (have c1 := tq.rc.cell (k := 1) (v := .int .i64 kd) rfl); (have c2 := tq.rc.cell (k := 2) (v := .int .u64 (fr : Int)) rfl); (have c3 := tq.rc.cell (k := 3) (v := .int .i64 tm) rfl); (have c4 := tq.rc.cell (k := 4) (v := .int .u64 (k1 : Int)) rfl); (have c5 := tq.rc.cell (k := 5) (v := .int .u64 (k2 : Int)) rfl); (have c6 := tq.rc.cell (k := 6) (v := .int .u64 (k3 : Int)) rfl); (have c7 := tq.rc.cell (k := 7) (v := .int .i64 n) rfl); (have c8 := tq.rc.cell (k := 8) (v := .int .i64 m) rfl); (have c9 := tq.rc.cell (k := 9) (v := .string (S a)) rfl); (have c10 := tq.rc.cell (k := 10) (v := .string (S b)) rfl); (have c11 := tq.rc.cell (k := 11) (v := .string (S c)) rfl); (have c12 := tq.rc.cell (k := 12) (v := .slice va vl vc) rfl); (have g0 := T5.out.res.cell (k := 0) (v := .int .i64 0) rfl); (have f0 := T5.out.res.fro 0); (have g1 := T5.out.res.cell (k := 1) (v := .int .i64 0) rfl); (have f1 := T5.out.res.fro 1); (have g2 := T5.out.res.cell (k := 2) (v := .int .u64 0) rfl); (have f2 := T5.out.res.fro 2); (have g3 := T5.out.res.cell (k := 3) (v := .int .i64 0) rfl); (have f3 := T5.out.res.fro 3); (have g4 := T5.out.res.cell (k := 4) (v := .int .u64 0) rfl); (have f4 := T5.out.res.fro 4); (have g5 := T5.out.res.cell (k := 5) (v := .int .u64 0) rfl); (have f5 := T5.out.res.fro 5); (have g6 := T5.out.res.cell (k := 6) (v := .int .u64 0) rfl); (have f6 := T5.out.res.fro 6); (have g7 := T5.out.res.cell (k := 7) (v := .int .i64 0) rfl); (have f7 := T5.out.res.fro 7); (have g8 := T5.out.res.cell (k := 8) (v := .int .i64 0) rfl); (have f8 := T5.out.res.fro 8); (have g9 := T5.out.res.cell (k := 9) (v := .string ⟨#[]⟩) rfl); (have f9 := T5.out.res.fro 9); (have g10 := T5.out.res.cell (k := 10) (v := .string ⟨#[]⟩) rfl); (have f10 := T5.out.res.fro 10); (have g11 := T5.out.res.cell (k := 11) (v := .string ⟨#[]⟩) rfl); (have f11 := T5.out.res.fro 11); (have g12 := T5.out.res.cell (k := 12) (v := .slice none 0 0) rfl); (have f12 := T5.out.res.fro 12); clear tq CB))
  exact bodyPost_ret (v := .tuple #[.agg #[.int .i64 0, .int .i64 0, .int .u64 0, .int .i64 0, .int .u64 0, .int .u64 0, .int .u64 0, .int .i64 0, .int .i64 0, .string ⟨#[]⟩, .string ⟨#[]⟩, .string ⟨#[]⟩, .slice none 0 0], .int .i64 3]) (by simp [results, Try.results15, go_sem, g0, g1, g2, g3, g4, g5, g6, g7, g8, g9, g10, g11, g12]) rfl ⟨HP.out _ _ rfl, T5.out.bel.trans ((((((((((((((((Ch.refl (fun b => b = w.heap.size) _).setCell ⟨w.heap.size, 0, none⟩ _ (fun _ => rfl)).setCell ⟨w.heap.size, 1, none⟩ _ (fun _ => rfl)).setCell ⟨w.heap.size, 2, none⟩ _ (fun _ => rfl)).setCell ⟨w.heap.size, 3, none⟩ _ (fun _ => rfl)).setCell ⟨w.heap.size, 4, none⟩ _ (fun _ => rfl)).setCell ⟨w.heap.size, 5, none⟩ _ (fun _ => rfl)).setCell ⟨w.heap.size, 6, none⟩ _ (fun _ => rfl)).setCell ⟨w.heap.size, 7, none⟩ _ (fun _ => rfl)).setCell ⟨w.heap.size, 8, none⟩ _ (fun _ => rfl)).setCell ⟨w.heap.size, 9, none⟩ _ (fun _ => rfl)).setCell ⟨w.heap.size, 10, none⟩ _ (fun _ => rfl)).setCell ⟨w.heap.size, 11, none⟩ _ (fun _ => rfl)).setCell ⟨w.heap.size, 12, none⟩ _ (fun _ => rfl)) : Ch (fun b => b = w.heap.size) _ _).below T5.out.bel.size (fun k hk e => by omega))⟩
theorem Take_any {s : List UInt8} (hs : s.length ≤ 140737488355328) (w : World) : Calls Try.prog 15 #[.string (S s)] w fun e w' => TkR s e w' ∧ Below w.heap.size w w' := by
  by_cases hm : May (rdR tt s)
  · by_cases he : bytR (rdR tt s) = s
    · exact Take_a hs hm he
    · exact Take_b hs hm he (fun r h => he (by rw [h.rd]; exact h.eq))
  · exact Take_c hs hm (fun r h => hm (by rw [h.rd]; exact h.may))
end Go.Proofs.Ytippnkendoghpaa.r12

/-
  Package seglog's Drop.
-/
import Derived.Test.YteifkkceldlfnaaGreatDoorG6Read
namespace Go.Proofs.YteifkkceldlfnaaGreatDoor
open Go.RowKit Go.Shelf Go.Sort
open Go.Lib hiding intOf
variable {w w' w1 w2 w3 wr : World} {B lb d g n : Nat} {lg lg' : Lg} {vs vs' us : List Sv} {sl sl' rv : Value} {X Y : Nat → Prop} {st st' : Ab} {pre : ByteArray} {v : Sv} {es : List Le} {mo : Option Nat} {l : List (List UInt8)}

theorem infoPtr' : (Tryz.prog.info? 83).map (fun i => (i.zero, i.size, i.bytes)) = some (some (.pointer none), 1, 8) := by kernel_rfl
theorem clo_any {b o m c : Nat} {news : List Value} {w : World} (hl : news.length = m) (hm : m ≤ 1099511627778) (hc : ∀ j u, news[j]? = some u → w.cell? ⟨b, o + j, none⟩ = some u) (h1 : ∀ u ∈ news, u.oneCell' = true) :
    Calls Tryz.prog 85 #[.slice (some ⟨b, o, none⟩) m c] w fun e w' => ∃ v', e = .returned v' ∧ w'.ownsRow w.heap.size 83 1 v' m news ∧ v' ≠ .slice none 0 0 ∧ Below w.heap.size w w' := by
  obtain ⟨i0, hi0, hz0, hz1, hz2⟩ := info_parts infoPtr'
  exact AnyE.slices_Clone cloLay i0 (.pointer none) 1 8 hi0 hz0 hz1 hz2 rfl (by decide) Tryz.sizeOf83 b o m c news w (by omega) (by unfold maxLen; omega) (by omega) hc h1
/-- the first segment is no more the log's -/
theorem Lw.popped (h : Lw w B lb d lg (v :: us) sl) (hb : Below w.heap.size w w1) (hr : w1.ownsRow w.heap.size 83 1 sl' us.length (us.map ptr)) (hB : B ≤ w.heap.size) :
    Lw (w1.setCell ⟨lb, 3, none⟩ sl') B lb d { lg with segs := us.map Sv.sg } us sl' ∧ Ch (fun x => x = lb) w (w1.setCell ⟨lb, 3, none⟩ sl') := by
  have W1 := h.below hb
  have C : Ch (fun x => x = lb) w1 (w1.setCell ⟨lb, 3, none⟩ sl') := (Ch.refl _ w1).setCell _ _ (fun _ => rfl)
  refine ⟨⟨heap_setCell_same w1 lb 3 _ _ _ W1.hd, ?_, fun u hu => ?_, (List.pairwise_cons.1 h.apart).2, rfl, h.low⟩, (Ch.of_below hb).trans C⟩
  · exact row_low (C.row hr (fun k hk e => by have := (row_obj hr hk).1; have := h.lt; omega)) hB
  · exact (W1.sw u (List.mem_cons_of_mem _ hu)).ch C (fun x hx e => (W1.v_lb (List.mem_cons_of_mem _ hu) hx).1 e)
theorem Ch.andOne (h : Ch X w w1) (k : Ch (fun x => x = lb) w1 w2) (hX : lb < w.heap.size → X lb) : Ch X w w2 :=
  ⟨k.os.trans h.os, k.tape.trans h.tape, k.output.trans h.output, Nat.le_trans h.size k.size, fun i hi hn => (k.block i (Nat.lt_of_lt_of_le hi h.size) (fun e => hn (by subst e; exact hX hi))).trans (h.block i hi hn)⟩
/-- how many segments the log's cell tells -/
def segN (lb : Nat) (w : World) : Nat := match w.cell? ⟨lb, 3, none⟩ with | some (.slice _ n _) => n | _ => 0
theorem segN_lw (h : Lw w B lb d lg vs sl) : segN lb w = vs.length := by
  obtain ⟨a, c, rfl, -⟩ := row_slice h.row
  unfold segN
  rw [h.c3]
theorem ddel (o : Lo X w B lb d lg st es mo vs sl) (k : ByteArray) (hz : k.size ≤ 9223372036854775807) : Calls Tryz.prog 84 #[.pointer (some ⟨d, 0, none⟩), .string k] w fun e w' => e = .returned (.int .i64 (aDel st k).1) ∧ Did w B d es mo w' (aDel st k).2 := by
  have := Delete_any o.ld k hz
  rw [o.fl] at this
  exact this
theorem ok_segs {a b : List Sg} (h : Ok { lg with segs := a ++ b }) (hb : b ≠ []) : Ok { lg with segs := b } := by
  refine ⟨?_, fun s hs => h.low s (List.mem_append_right _ hs), h.next, fun e => absurd e hb, h.sure, h.sz, h.pre, fun s hs => h.size s (List.mem_append_right _ hs), fun s hs => h.full s (List.mem_append_right _ hs)⟩
  have := h.cn.drop a.length
  simp only [List.drop_left] at this
  exact this
/-- what stands in Drop's loop -/
def JD (X : Nat → Prop) (w : World) (B lb d : Nat) (lg : Lg) (below : Nat) (res : Int × List Sg × Ab) (wr : World) : Prop :=
  ∃ segs st, Lft X w B lb d { lg with segs := segs } st wr ∧ dropS lg.pre below segs st = res
set_option maxRecDepth 100000 in
set_option maxHeartbeats 8000000 in
theorem gDrop_any {below : Nat} (h : Ls X w B lb d lg st) : Calls Tryz.prog 48 #[.pointer (some ⟨lb, 0, none⟩), .int .u64 (below : Int)] w fun e w' =>
    e = .returned (.int .i64 (gDrop lg st below).1) ∧ Lft X w B lb d (gDrop lg st below).2.1 (gDrop lg st below).2.2 w' := by
  have hq := logEql lb
  have hBw := h.base.1
  have HJ0 : Hid (JD X w B lb d lg below (dropS lg.pre below lg.segs st) w) := ⟨lg.segs, st, Lft.of_below h (Below.refl _ w), rfl⟩
  unfold gDrop
  generalize dropS lg.pre below lg.segs st = res at *
  clear h
  go_enter Tryz.func48, Tryz.ntmps48
  go_wp2_with fail
  go_loopw [5] (fun _ wr => Hid (JD X w B lb d lg below res wr)) (fun _ wr => segN lb wr)
  case atStart => exact HJ0
  case round =>
    obtain ⟨segs, st1, hL, hres⟩ := hrel
    obtain ⟨es, mo, vs, sl, o⟩ := hL.1.lo
    have HM : Hid (segN lb wr = vs.length) := segN_lw o.lw
    have c0 := o.lw.c0
    have c3 := o.lw.c3
    have HO : Hid (Lo (fun x => X x ∨ w.heap.size ≤ x) wr B lb d { lg with segs := segs } st1 es mo vs sl ∧ Ch X w wr) := ⟨o, hL.2⟩
    have hseg := o.lw.segs
    simp only at hseg
    obtain ⟨sa, sc, rfl, -⟩ := row_slice o.lw.row
    rcases vs with _ | ⟨v, _ | ⟨u, r⟩⟩
    · simp only [List.map_nil, List.length_nil] at hseg c3
      subst hseg
      have HR : Hid (res = (0, [], st1)) := hres.symm
      clear hres o hL
      go_wp2
      go_ret
      rw [HR.out]
      exact ⟨rfl, HO.out.1.ls, HO.out.2⟩
    · simp only [List.map_cons, List.map_nil, List.length_cons, List.length_nil, Nat.zero_add] at hseg c3
      subst hseg
      have HR : Hid (res = (0, [v.sg], st1)) := hres.symm
      clear hres o hL
      go_wp2
      go_ret
      rw [HR.out]
      exact ⟨rfl, HO.out.1.ls, HO.out.2⟩
    · subst hseg
      have hcnt : (v :: u :: r).length ≤ 1099511627778 := by rw [o.lw.len]; exact o.ok.count
      obtain ⟨m, hm⟩ : ∃ m, (v :: u :: r).length = m := ⟨_, rfl⟩
      have hm2 : 2 ≤ m := by rw [← hm]; simp
      obtain ⟨g, c', hsl, cg0⟩ := o.lw.at (i := 0) (by simp)
      injection hsl with hsa _ hsc
      subst hsa; subst hsc
      simp only [List.getElem_cons_zero] at cg0
      have hsv := o.ok.seg (s := v.sg) (by simp)
      have hsw := o.lw.sw v (by simp)
      have cN := next_any hsw (by omega)
      have s0 := hsw.c0
      simp only at s0
      have hk := nam_size lg.pre v.sg.first o.ok.pre.2 (by have := hsv.2.1; unfold Sg.next at this; omega)
      rw [hm] at c3 hcnt
      have hm1 : (1 : Int) < (m : Int) := by omega
      have hm0 : (0 : Int) < (m : Int) := by omega
      have hm0n : 0 < m := by omega
      simp only [List.map_cons] at hres
      by_cases hle : v.sg.next ≤ below
      · have hle' : (v.sg.next : Int) ≤ (below : Int) := by omega
        obtain ⟨no, st2, hdl⟩ : ∃ no st2, aDel st1 (nam lg.pre v.sg.first) = (no, st2) := ⟨_, _, rfl⟩
        unfold dropS at hres
        rw [if_pos hle, hdl] at hres
        have HD : Hid (∀ q, Calls Tryz.prog 84 #[.pointer (some ⟨d, 0, none⟩), .string (nam lg.pre v.sg.first)] (wr.drewN q) fun e w' => e = .returned (.int .i64 no) ∧ Did wr B d es mo w' st2) := fun q => by
          have := ddel (o.drewN q) (nam lg.pre v.sg.first) (by omega)
          rw [hdl] at this
          exact this.mono fun _ _ x => ⟨x.1, x.2.drawn⟩
        have HW : Hid (∀ w3, Did wr B d es mo w3 st2 → Lw w3 B lb d { lg with segs := (v :: u :: r).map Sv.sg } (v :: u :: r) (.slice (some ⟨g, 0, none⟩) (v :: u :: r).length sc)) := fun w3 D => o.lw.did (st := st1) o.ld D
        have hcap : m ≤ sc := by
          rcases o.lw.row.2 with ⟨e, _⟩ | ⟨g', cap, cur, e, _, _, hnc, _⟩
          · cases e
          · injection e with _ _ e3
            subst e3
            omega
        by_cases hno : no = 0
        · subst hno
          rw [if_neg (by simp)] at hres
          have HR : Hid (dropS lg.pre below (u.sg :: r.map Sv.sg) st2 = res) := hres
          have hm11 : (1 : Int) ≤ (m : Int) := by omega
          have hmc : (m : Int) ≤ (sc : Int) := by omega
          clear hres o hL hsw hdl
          go_wp2_with (go_at_call 34; refine cN.mono ?_; rintro e w2 ⟨rfl, q2, rfl⟩)
          go_region_held3 (fun w' => w'.cell? ⟨lb, 0, none⟩ = some (.pointer (some ⟨d, 0, none⟩)) ∧ w'.cell? ⟨lb, 3, none⟩ = some (.slice (some ⟨g, 0, none⟩) m sc) ∧ w'.cell? ⟨g, 0, none⟩ = some (.pointer (some ⟨v.g, 0, none⟩)) ∧ w'.cell? ⟨v.g, 0, none⟩ = some (.string (nam lg.pre v.sg.first)))
            (first | go_keep | exact ⟨k0, k1, k2, k3⟩)
            (first
              | (go_at_call 84; refine (HD.out _).mono ?_; rintro e w3 ⟨rfl, D3⟩; (have W3 := HW.out w3 D3); have k0 := W3.c0; have k1 := W3.c3; rw [hm] at k1; (have k3 := (W3.sw v (by simp)).c0); simp only at k3; (have k2 : w3.cell? ⟨g, 0, none⟩ = some (.pointer (some ⟨v.g, 0, none⟩)) := row_cell (j := 0) (v := ptr v) W3.row (by simp)); have kf := W3.fro 3; have H3 : Hid (Did wr B d es mo w3 st2) := D3; clear D3 W3))
          have W3 := HW.out w3 H3.out
          have hmm : m - 1 = (u :: r).length := by rw [← hm]; simp
          have cC := clo_any (b := g) (o := 1) (m := m - 1) (c := sc - 1) (news := (u :: r).map ptr) (w := w3) (by rw [hmm]; simp) (by omega) (fun j x hx => by
            have := row_cell (j := j + 1) (v := x) W3.row (by simpa using hx)
            rw [show 1 + j = j + 1 by omega]
            exact this) (fun x hx => by
            obtain ⟨y, _, rfl⟩ := List.mem_map.1 hx
            rfl)
          have hl3 := W3.lt
          have HF : Hid (∀ w4 v4, w4.ownsRow w3.heap.size 83 1 v4 (m - 1) ((u :: r).map ptr) → Below w3.heap.size w3 w4 → JD X w B lb d lg below res (w4.setCell ⟨lb, 3, none⟩ v4) ∧ segN lb (w4.setCell ⟨lb, 3, none⟩ v4) = m - 1) := fun w4 v4 a1 a2 => by
            obtain ⟨o, hC⟩ := HO.out
            rw [hmm] at a1
            have hB3 : B ≤ w3.heap.size := by have := W3.low; omega
            obtain ⟨W5, C5⟩ := W3.popped a2 a1 hB3
            have hr5 := Lo.refused o (fun x hx => hx) hC H3.out
            obtain ⟨es', mo', L', e', C, hf⟩ := H3.out
            have L5 := L'.ch C5 (fun x hx e => W3.not_ld L' (.inl e) hx)
            have hlb : lb < w.heap.size → X lb := fun hlt => (o.lx lb (.inl rfl)).elim id (fun h1 => by omega)
            have hs := C.size
            have hs0 := hC.size
            refine ⟨⟨u.sg :: r.map Sv.sg, st2, Ls.put L5 e' W5 (ok_segs (a := [v.sg]) (b := u.sg :: r.map Sv.sg) o.ok (by simp)) (Ch.andOne hr5.2 C5 hlb) (fun x hx => ?_) ?_, HR.out⟩, by rw [segN_lw W5, hmm]⟩
            · rcases hf x hx with h1 | h1
              · exact o.fx x h1
              · exact .inr (by omega)
            · rintro x (hx | hx | ⟨y, hy, hx⟩)
              · exact o.lx x (.inl hx)
              · have := (row_obj a1 hx).1
                exact .inr (by omega)
              · exact o.lx x (.inr (.inr ⟨y, List.mem_cons_of_mem _ hy, hx⟩))
          clear W3 hmm
          go_wp2_with (go_at_call 85; refine cC.mono ?_; rintro e w4 ⟨v4, rfl, hr4, -, hb4⟩; (have d3 := (hb4.cell (p := ⟨lb, 3, none⟩) hl3).trans k1); (have f3 := (hb4.frozen (p := ⟨lb, 3, none⟩) hl3).trans kf); obtain ⟨a4, c4, rfl, -⟩ := row_slice hr4; (have HE : Hid _ := HF.out w4 _ hr4 hb4); clear hr4 hb4)
          exact ⟨HE.out.1, by rw [HE.out.2, HM.out, hm]; omega⟩
        · rw [if_pos hno] at hres
          have HR : Hid (res = (no, v.sg :: u.sg :: r.map Sv.sg, st2)) := hres.symm
          have hbe : (no != 0) = true := by simpa using hno
          clear hres o hL hsw hdl
          go_wp2_with (go_at_call 34; refine cN.mono ?_; rintro e w2 ⟨rfl, q2, rfl⟩)
          go_region_held3 (fun w' => w'.cell? ⟨lb, 0, none⟩ = some (.pointer (some ⟨d, 0, none⟩)) ∧ w'.cell? ⟨lb, 3, none⟩ = some (.slice (some ⟨g, 0, none⟩) m sc) ∧ w'.cell? ⟨g, 0, none⟩ = some (.pointer (some ⟨v.g, 0, none⟩)) ∧ w'.cell? ⟨v.g, 0, none⟩ = some (.string (nam lg.pre v.sg.first)))
            (first | go_keep | exact ⟨k0, k1, k2, k3⟩)
            (first
              | (go_at_call 84; refine (HD.out _).mono ?_; rintro e w3 ⟨rfl, D3⟩; (have W3 := HW.out w3 D3); have k0 := W3.c0; have k1 := W3.c3; rw [hm] at k1; (have k3 := (W3.sw v (by simp)).c0); simp only at k3; (have k2 : w3.cell? ⟨g, 0, none⟩ = some (.pointer (some ⟨v.g, 0, none⟩)) := row_cell (j := 0) (v := ptr v) W3.row (by simp)); have H3 : Hid (Did wr B d es mo w3 st2) := D3; clear D3 W3))
          go_wp2
          go_ret
          rw [HR.out]
          refine ⟨rfl, ?_⟩
          have := Lo.refused HO.out.1 (fun x hx => hx) HO.out.2 H3.out
          exact this
      · have hle' : ¬ (v.sg.next : Int) ≤ (below : Int) := by omega
        unfold dropS at hres
        rw [if_neg hle] at hres
        have HR : Hid (res = (0, v.sg :: u.sg :: r.map Sv.sg, st1)) := hres.symm
        clear hres o hL hsw
        go_wp2_with (go_at_call 34; refine cN.mono ?_; rintro e w2 ⟨rfl, q2, rfl⟩)
        go_ret
        rw [HR.out]
        exact ⟨rfl, (HO.out.1.drewN q2).ls, HO.out.2.trans (Ch.of_below (below_drewN' (Below.refl _ wr) q2))⟩
end Go.Proofs.YteifkkceldlfnaaGreatDoor

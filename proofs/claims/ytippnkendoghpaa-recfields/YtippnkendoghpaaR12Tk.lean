/-
  Package rec's taken: the fields of a record are taken one behind the other.
-/
import Derived.Test.YtippnkendoghpaaR12Wr
import Derived.Test.YtippnkendoghpaaV9Tkv
import Derived.Deep.RegionWith
import Derived.IntWalk
namespace Go.Proofs.Ytippnkendoghpaa.r12
open Go.RowKit Go.Shelf Go.Sort
open Go.Lib hiding intOf

/-- the record in block rb has these cells -/
def Rx (w : World) (rb : Nat) (cs : Array Value) : Prop := w.heap[rb]? = some (.cells cs 25 (0, 0))
theorem Rx.lt {w : World} {rb : Nat} {cs : Array Value} (h : Rx w rb cs) : rb < w.heap.size := (Array.getElem?_eq_some_iff.1 h).1
theorem Rx.cell {w : World} {rb k : Nat} {cs : Array Value} {v : Value} (h : Rx w rb cs) (hk : cs[k]? = some v) : w.cell? ⟨rb, k, none⟩ = some v := by unfold Rx at h; simp [World.cell?, h, hk]
theorem Rx.fro {w : World} {rb : Nat} {cs : Array Value} (h : Rx w rb cs) (k : Nat) : w.frozen? ⟨rb, k, none⟩ = false := by unfold Rx at h; simp [World.frozen?, h]
theorem Rx.but {w w' : World} {rb ib : Nat} {cs : Array Value} (h : Rx w rb cs) (hb : But ib w w') (hne : rb ≠ ib) : Rx w' rb cs := (hb.block rb h.lt hne).trans h
theorem Rx.below {w w' : World} {rb B : Nat} {cs : Array Value} (h : Rx w rb cs) (hb : Below B w w') (hB : rb < B) : Rx w' rb cs := (hb.block rb hB).trans h
theorem Rx.up {w w' : World} {rb : Nat} {cs : Array Value} (h : Rx w rb cs) (hb : Below w.heap.size w w') : Rx w' rb cs := h.below hb h.lt
theorem Rx.new (w : World) (cs : Array Value) : Rx (w.alloc (.cells cs 25)) w.heap.size cs := heap_alloc_new w _
/-- what a closure that takes leaves: the record's cell k is v, what else was there is as it was but for the reader -/
def Aft (w w' : World) (ib rb : Nat) (cs : Array Value) (k : Nat) (v : Value) : Prop := Rx w' rb (cs.setIfInBounds k v) ∧ Ch (fun b => b = ib ∨ b = rb) w w'
theorem ch_of_but {ib rb : Nat} {w w' : World} (h : But ib w w') : Ch (fun b => b = ib ∨ b = rb) w w' := ⟨h.os, h.tape, h.output, h.size, fun k hk hX => h.block k hk (fun e => hX (.inl e))⟩
theorem aft_of {w w1 : World} {ib rb k : Nat} {cs : Array Value} (v : Value) (hb : But ib w w1) (hr : Rx w1 rb cs) : Aft w (w1.setCell ⟨rb, k, none⟩ v) ib rb cs k v :=
  ⟨heap_setCell_same w1 rb k _ _ v hr, (ch_of_but hb).setCell ⟨rb, k, none⟩ v (fun _ => .inr rfl)⟩
theorem Aft.drew {w w1 : World} {ib rb k : Nat} {cs : Array Value} {v : Value} (h : Aft w w1 ib rb cs k v) : Aft w w1.drew ib rb cs k v := ⟨h.1, h.2.drew⟩
theorem but_drew_l {b : Nat} {w w1 : World} (h : But b w.drew w1) : But b w w1 := ⟨h.os, h.tape, h.output, h.size, h.block⟩
theorem rd_drew {b e : Nat} {l : List UInt8} {w : World} (h : Rd w b l e) : Rd w.drew b l e := ⟨h.rest, h.err, h.fr, h.fe, h.lt⟩

set_option maxHeartbeats 400000 in
theorem TakeVars_wrong {w : World} {b e : Nat} {l : List UInt8} (h : Rd w b l e) (he : e ≠ 0) : Calls Try.prog 74 #[.pointer (some ⟨b, 0, none⟩)] w fun r w' => r = .returned (.tuple #[.slice none 0 0, .bool false]) ∧ But b w w' := by
  have CU := Uint_all (v := 0) (l2 := l) (e2 := e) h (by show _ = _; unfold rdU; rw [if_neg he])
  have hb1 : ((e : Int) != 0) = true := bne_iff_ne.2 (by omega)
  clear he
  go_enter Try.func74, Try.ntmps74
  go_wp2_with (first
    | (go_at_call 62; refine CU.mono ?_; rintro e' w1 ⟨rfl, r1, b1⟩; (have T1 : Hid (But b w w1) := b1); (have CE := Err_any r1); clear b1 r1)
    | (go_at_call 92; refine CE.mono ?_; rintro e' w2 ⟨rfl, hw2⟩; rw [hw2]; clear hw2 w2))
  go_ret2
  exact ⟨rfl, T1.out⟩
/-- what TakeVars comes to, whatever the reader's state: the variables -/
def TvP (w : World) (b : Nat) (L : List Vr) (r : Ending) (w' : World) : Prop := ∃ a n c ok, r = .returned (.tuple #[.slice a n c, .bool ok]) ∧ Vs w' (.slice a n c) L ∧ But b w w'
theorem takeVars_all {w : World} {b e : Nat} {l : List UInt8} (h : Rd w b l e) (hl : l.length ≤ 140737488400000) : Calls Try.prog 74 #[.pointer (some ⟨b, 0, none⟩)] w (TvP w b (if e = 0 then (tlR l).1 else [])) := by
  by_cases he : e = 0
  · subst he
    rw [if_pos rfl]
    refine (TakeVars_any h hl).mono ?_
    rintro r w' ⟨v', rfl, hv, hb⟩
    have hv' := hv
    obtain ⟨a, c, rfl, -⟩ := hv'
    exact ⟨a, _, c, _, rfl, hv, hb⟩
  · rw [if_neg he]
    refine (TakeVars_wrong h he).mono ?_
    rintro r w' ⟨rfl, hb⟩
    exact ⟨none, 0, 0, false, rfl, Vs.nil _, hb⟩

set_option maxHeartbeats 400000 in
theorem Read_any (s : List UInt8) (w : World) : Calls Try.prog 26 #[.string (S s)] w fun e w' => e = .returned (.pointer (some ⟨w.heap.size, 0, none⟩)) ∧ Rd w' w.heap.size s 0 ∧ Below w.heap.size w w' := by
  have HR : Hid (∀ T, Rd (w.alloc (.cells #[.string (S s), .int .i64 0] T)) w.heap.size s 0) := fun T => ⟨World.cell?_alloc_new _ _ _ _, World.cell?_alloc_new _ _ _ _, by go_simp, by go_simp, by simp⟩
  have HB : Hid (∀ o, Below w.heap.size w (w.alloc o)) := fun o => (Below.refl _ _).alloc (Nat.le_refl _) _
  go_enter Try.func26, Try.ntmps26
  go_wp2
  go_ret
  exact ⟨rfl, HR.out _, HB.out _⟩

set_option maxHeartbeats 2000000 in
set_option maxRecDepth 100000 in
theorem small_tk {w : World} {x rb k ib e e2 : Nat} {l l2 : List UInt8} {u : Nat} {cs : Array Value} {old : Value} (hx : w.cell? ⟨x, 0, none⟩ = some (.pointer (some ⟨rb, k, none⟩))) (hr : Rx w rb cs) (hk : cs[k]? = some old) (h : Rd w ib l e) (hB : Hid (rdB l e = (u, l2, e2))) (h256 : u < 256) (hxl : x < w.heap.size) (hxi : x ≠ ib) (hri : rb ≠ ib) :
    Calls Try.prog 57 #[.pointer (some ⟨ib, 0, none⟩), .pointer (some ⟨x, 0, none⟩)] w fun r w' => (∃ v, r = .returned v) ∧ Rd w' ib l2 e2 ∧ Aft w w' ib rb cs k (.int .i64 (u : Int)) := by
  have HC : Hid (∀ w1, But ib w w1 → w1.cell? ⟨x, 0, none⟩ = some (.pointer (some ⟨rb, k, none⟩)) ∧ w1.cell? ⟨rb, k, none⟩ = some old ∧ w1.frozen? ⟨rb, k, none⟩ = false) := fun w1 hb => ⟨(hb.cell (p := ⟨x, 0, none⟩) hxl hxi).trans hx, (hr.but hb hri).cell hk, (hr.but hb hri).fro k⟩
  have HE : Hid (∀ w1, But ib w w1 → Rd w1 ib l2 e2 → Rd (w1.setCell ⟨rb, k, none⟩ (.int .i64 (u : Int))) ib l2 e2 ∧ Aft w (w1.setCell ⟨rb, k, none⟩ (.int .i64 (u : Int))) ib rb cs k (.int .i64 (u : Int))) := fun w1 hb hd => ⟨hd.set (Ne.symm hri) k _, aft_of _ hb (hr.but hb hri)⟩
  have CB : ∀ W, W = w ∨ W = w.drew → Calls Try.prog 58 #[.pointer (some ⟨ib, 0, none⟩)] W fun r w' => r = .returned (.int .u8 (u : Int)) ∧ Rd w' ib l2 e2 ∧ But ib w w' := fun W hW => by
    rcases hW with rfl | rfl
    · exact Byte_all h hB
    · exact (Byte_all (rd_drew h) hB).mono fun r w' hh => ⟨hh.1, hh.2.1, but_drew_l hh.2.2⟩
  have hwu : IntKind.i64.wrap (u : Int) = (u : Int) := IntWalk.i64_in _ (by omega)
  have c0 := hx
  have c1 := hr.cell hk
  have c2 := hr.fro k
  clear hx hr hk h hB hxl hxi hri
  go_enter Try.func57, Try.ntmps57
  go_wp2
  go_region_with (first | (go_at_call 58; refine (CB _ (by first | exact .inl rfl | exact .inr rfl)).mono ?_; rintro r w1 ⟨rfl, d1, b1⟩; obtain ⟨y0, y1, y2⟩ := HC.out w1 b1; (have E1 : Hid (Rd (w1.setCell ⟨rb, k, none⟩ (.int .i64 (u : Int))) ib l2 e2 ∧ Aft w (w1.setCell ⟨rb, k, none⟩ (.int .i64 (u : Int))) ib rb cs k (.int .i64 (u : Int))) := HE.out w1 b1 d1); clear d1 b1 CB HC HE))
  all_goals
    go_wp2
    go_end0
    first
      | exact ⟨⟨_, rfl⟩, E1.out.1, E1.out.2⟩
      | exact ⟨⟨_, rfl⟩, rd_drew E1.out.1, E1.out.2.drew⟩

set_option maxHeartbeats 2000000 in
set_option maxRecDepth 100000 in
theorem count_tk {w : World} {x rb k ib e e2 : Nat} {l l2 : List UInt8} {u : Nat} {cs : Array Value} {old : Value} (hx : w.cell? ⟨x, 0, none⟩ = some (.pointer (some ⟨rb, k, none⟩))) (hr : Rx w rb cs) (hk : cs[k]? = some old) (h : Rd w ib l e) (hB : Hid (rdU l e = (u, l2, e2)))  (hxl : x < w.heap.size) (hxi : x ≠ ib) (hri : rb ≠ ib) :
    Calls Try.prog 61 #[.pointer (some ⟨ib, 0, none⟩), .pointer (some ⟨x, 0, none⟩)] w fun r w' => (∃ v, r = .returned v) ∧ Rd w' ib l2 e2 ∧ Aft w w' ib rb cs k (.int .u64 (u : Int)) := by
  have HC : Hid (∀ w1, But ib w w1 → w1.cell? ⟨x, 0, none⟩ = some (.pointer (some ⟨rb, k, none⟩)) ∧ w1.cell? ⟨rb, k, none⟩ = some old ∧ w1.frozen? ⟨rb, k, none⟩ = false) := fun w1 hb => ⟨(hb.cell (p := ⟨x, 0, none⟩) hxl hxi).trans hx, (hr.but hb hri).cell hk, (hr.but hb hri).fro k⟩
  have HE : Hid (∀ w1, But ib w w1 → Rd w1 ib l2 e2 → Rd (w1.setCell ⟨rb, k, none⟩ (.int .u64 (u : Int))) ib l2 e2 ∧ Aft w (w1.setCell ⟨rb, k, none⟩ (.int .u64 (u : Int))) ib rb cs k (.int .u64 (u : Int))) := fun w1 hb hd => ⟨hd.set (Ne.symm hri) k _, aft_of _ hb (hr.but hb hri)⟩
  have CB : ∀ W, W = w ∨ W = w.drew → Calls Try.prog 62 #[.pointer (some ⟨ib, 0, none⟩)] W fun r w' => r = .returned (.int .u64 (u : Int)) ∧ Rd w' ib l2 e2 ∧ But ib w w' := fun W hW => by
    rcases hW with rfl | rfl
    · exact Uint_all h hB
    · exact (Uint_all (rd_drew h) hB).mono fun r w' hh => ⟨hh.1, hh.2.1, but_drew_l hh.2.2⟩
  have c0 := hx
  have c1 := hr.cell hk
  have c2 := hr.fro k
  clear hx hr hk h hB hxl hxi hri
  go_enter Try.func61, Try.ntmps61
  go_wp2
  go_region_with (first | (go_at_call 62; refine (CB _ (by first | exact .inl rfl | exact .inr rfl)).mono ?_; rintro r w1 ⟨rfl, d1, b1⟩; obtain ⟨y0, y1, y2⟩ := HC.out w1 b1; (have E1 : Hid (Rd (w1.setCell ⟨rb, k, none⟩ (.int .u64 (u : Int))) ib l2 e2 ∧ Aft w (w1.setCell ⟨rb, k, none⟩ (.int .u64 (u : Int))) ib rb cs k (.int .u64 (u : Int))) := HE.out w1 b1 d1); clear d1 b1 CB HC HE))
  all_goals
    go_wp2
    go_end0
    first
      | exact ⟨⟨_, rfl⟩, E1.out.1, E1.out.2⟩
      | exact ⟨⟨_, rfl⟩, rd_drew E1.out.1, E1.out.2.drew⟩

set_option maxHeartbeats 2000000 in
set_option maxRecDepth 100000 in
theorem number_tk {w : World} {x rb k ib e e2 : Nat} {l l2 : List UInt8} {u : Nat} {cs : Array Value} {old : Value} (hx : w.cell? ⟨x, 0, none⟩ = some (.pointer (some ⟨rb, k, none⟩))) (hr : Rx w rb cs) (hk : cs[k]? = some old) (h : Rd w ib l e) (hB : Hid (rdU l e = (u, l2, e2)))  (hxl : x < w.heap.size) (hxi : x ≠ ib) (hri : rb ≠ ib) :
    Calls Try.prog 65 #[.pointer (some ⟨ib, 0, none⟩), .pointer (some ⟨x, 0, none⟩)] w fun r w' => (∃ v, r = .returned v) ∧ Rd w' ib l2 e2 ∧ Aft w w' ib rb cs k (.int .i64 (Lib.unzigzag u)) := by
  have HC : Hid (∀ w1, But ib w w1 → w1.cell? ⟨x, 0, none⟩ = some (.pointer (some ⟨rb, k, none⟩)) ∧ w1.cell? ⟨rb, k, none⟩ = some old ∧ w1.frozen? ⟨rb, k, none⟩ = false) := fun w1 hb => ⟨(hb.cell (p := ⟨x, 0, none⟩) hxl hxi).trans hx, (hr.but hb hri).cell hk, (hr.but hb hri).fro k⟩
  have HE : Hid (∀ w1, But ib w w1 → Rd w1 ib l2 e2 → Rd (w1.setCell ⟨rb, k, none⟩ (.int .i64 (Lib.unzigzag u))) ib l2 e2 ∧ Aft w (w1.setCell ⟨rb, k, none⟩ (.int .i64 (Lib.unzigzag u))) ib rb cs k (.int .i64 (Lib.unzigzag u))) := fun w1 hb hd => ⟨hd.set (Ne.symm hri) k _, aft_of _ hb (hr.but hb hri)⟩
  have CB : ∀ W, W = w ∨ W = w.drew → Calls Try.prog 66 #[.pointer (some ⟨ib, 0, none⟩)] W fun r w' => r = .returned (.int .i64 (Lib.unzigzag u)) ∧ Rd w' ib l2 e2 ∧ But ib w w' := fun W hW => by
    rcases hW with rfl | rfl
    · exact Int_all h hB
    · exact (Int_all (rd_drew h) hB).mono fun r w' hh => ⟨hh.1, hh.2.1, but_drew_l hh.2.2⟩
  have c0 := hx
  have c1 := hr.cell hk
  have c2 := hr.fro k
  clear hx hr hk h hB hxl hxi hri
  go_enter Try.func65, Try.ntmps65
  go_wp2
  go_region_with (first | (go_at_call 66; refine (CB _ (by first | exact .inl rfl | exact .inr rfl)).mono ?_; rintro r w1 ⟨rfl, d1, b1⟩; obtain ⟨y0, y1, y2⟩ := HC.out w1 b1; (have E1 : Hid (Rd (w1.setCell ⟨rb, k, none⟩ (.int .i64 (Lib.unzigzag u))) ib l2 e2 ∧ Aft w (w1.setCell ⟨rb, k, none⟩ (.int .i64 (Lib.unzigzag u))) ib rb cs k (.int .i64 (Lib.unzigzag u))) := HE.out w1 b1 d1); clear d1 b1 CB HC HE))
  all_goals
    go_wp2
    go_end0
    first
      | exact ⟨⟨_, rfl⟩, E1.out.1, E1.out.2⟩
      | exact ⟨⟨_, rfl⟩, rd_drew E1.out.1, E1.out.2.drew⟩

set_option maxHeartbeats 2000000 in
set_option maxRecDepth 100000 in
theorem text_tk {w : World} {x rb k ib e e2 : Nat} {l l2 : List UInt8} {u : List UInt8} {cs : Array Value} {old : Value} (hx : w.cell? ⟨x, 0, none⟩ = some (.pointer (some ⟨rb, k, none⟩))) (hr : Rx w rb cs) (hk : cs[k]? = some old) (h : Rd w ib l e) (hB : Hid (rdT 4096 l e = (u, l2, e2))) (hl : l.length ≤ 140737488355328) (hxl : x < w.heap.size) (hxi : x ≠ ib) (hri : rb ≠ ib) :
    Calls Try.prog 69 #[.pointer (some ⟨ib, 0, none⟩), .pointer (some ⟨x, 0, none⟩)] w fun r w' => (∃ v, r = .returned v) ∧ Rd w' ib l2 e2 ∧ Aft w w' ib rb cs k (.string (S u)) := by
  have HC : Hid (∀ w1, But ib w w1 → w1.cell? ⟨x, 0, none⟩ = some (.pointer (some ⟨rb, k, none⟩)) ∧ w1.cell? ⟨rb, k, none⟩ = some old ∧ w1.frozen? ⟨rb, k, none⟩ = false) := fun w1 hb => ⟨(hb.cell (p := ⟨x, 0, none⟩) hxl hxi).trans hx, (hr.but hb hri).cell hk, (hr.but hb hri).fro k⟩
  have HE : Hid (∀ w1, But ib w w1 → Rd w1 ib l2 e2 → Rd (w1.setCell ⟨rb, k, none⟩ (.string (S u))) ib l2 e2 ∧ Aft w (w1.setCell ⟨rb, k, none⟩ (.string (S u))) ib rb cs k (.string (S u))) := fun w1 hb hd => ⟨hd.set (Ne.symm hri) k _, aft_of _ hb (hr.but hb hri)⟩
  have CB : ∀ W, W = w ∨ W = w.drew → Calls Try.prog 70 #[.pointer (some ⟨ib, 0, none⟩), .int .i64 4096] W fun r w' => r = .returned (.string (S u)) ∧ Rd w' ib l2 e2 ∧ But ib w w' := fun W hW => by
    rcases hW with rfl | rfl
    · exact Text_all h hl (by omega) hB
    · exact (Text_all (rd_drew h) hl (by omega) hB).mono fun r w' hh => ⟨hh.1, hh.2.1, but_drew_l hh.2.2⟩
  have c0 := hx
  have c1 := hr.cell hk
  have c2 := hr.fro k
  clear hx hr hk h hB hxl hxi hri
  go_enter Try.func69, Try.ntmps69
  go_wp2
  go_region_with (first | (go_at_call 70; refine (CB _ (by first | exact .inl rfl | exact .inr rfl)).mono ?_; rintro r w1 ⟨rfl, d1, b1⟩; obtain ⟨y0, y1, y2⟩ := HC.out w1 b1; (have E1 : Hid (Rd (w1.setCell ⟨rb, k, none⟩ (.string (S u))) ib l2 e2 ∧ Aft w (w1.setCell ⟨rb, k, none⟩ (.string (S u))) ib rb cs k (.string (S u))) := HE.out w1 b1 d1); clear d1 b1 CB HC HE))
  all_goals
    go_wp2
    go_end0
    first
      | exact ⟨⟨_, rfl⟩, E1.out.1, E1.out.2⟩
      | exact ⟨⟨_, rfl⟩, rd_drew E1.out.1, E1.out.2.drew⟩

theorem Rx.of_cell {w : World} {rb k : Nat} {cs : Array Value} {v : Value} (h : Rx w rb cs) (hc : w.cell? ⟨rb, k, none⟩ = some v) : cs[k]? = some v := by
  unfold Rx at h
  simpa [World.cell?, h] using hc
/-- no variable lies in such cells -/
def Np (cs : Array Value) : Prop := ∀ o s n, cs[o]? = some (.string s) → cs[o + 1]? = some (.int .i64 n) → False
theorem vs_set {w : World} {rb k : Nat} {cs : Array Value} {vv : Value} {L : List Vr} (hr : Rx w rb cs) (hp : Np cs) (hv : Vs w vv L) (u : Value) : Vs (w.setCell ⟨rb, k, none⟩ u) vv L := by
  obtain ⟨a, cap, rfl, hc, h⟩ := hv
  refine ⟨a, cap, rfl, hc, ?_⟩
  rcases h with h | ⟨b, off, rfl, hlt, hcell⟩
  · exact .inl h
  · by_cases hL : L = []
    · exact .inl hL
    · have hpos : 0 < L.length := List.length_pos_iff.2 hL
      have hne : b ≠ rb := fun e => by
        subst e
        have h0 := hcell 0 hpos
        exact hp _ _ _ (hr.of_cell h0.1) (hr.of_cell h0.2.1)
      have hch : Ch (fun b => b = rb) w (w.setCell ⟨rb, k, none⟩ u) := (Ch.refl (fun b => b = rb) w).setCell ⟨rb, k, none⟩ u (fun _ => rfl)
      exact .inr ⟨b, off, rfl, by simpa [World.setCell] using hlt, fun j hj => ⟨hch.cell (hcell j hj).1 hne, hch.cell (hcell j hj).2.1 hne, hch.cell (hcell j hj).2.2.1 hne, hch.cell (hcell j hj).2.2.2 hne⟩⟩

set_option maxHeartbeats 2000000 in
set_option maxRecDepth 100000 in
theorem list_tk {w : World} {x rb k ib e : Nat} {l : List UInt8} {cs : Array Value} {old : Value} (hx : w.cell? ⟨x, 0, none⟩ = some (.pointer (some ⟨rb, k, none⟩))) (hr : Rx w rb cs) (hk : cs[k]? = some old) (h : Rd w ib l e) (hp : Np cs) (hl : l.length ≤ 140737488355328) (hxl : x < w.heap.size) (hxi : x ≠ ib) (hri : rb ≠ ib) :
    Calls Try.prog 73 #[.pointer (some ⟨ib, 0, none⟩), .pointer (some ⟨x, 0, none⟩)] w fun r w' => (∃ v, r = .returned v) ∧ ∃ vv, Vs w' vv (if e = 0 then (tlR l).1 else []) ∧ Aft w w' ib rb cs k vv := by
  have HC : Hid (∀ w1, But ib w w1 → w1.cell? ⟨x, 0, none⟩ = some (.pointer (some ⟨rb, k, none⟩)) ∧ w1.cell? ⟨rb, k, none⟩ = some old ∧ w1.frozen? ⟨rb, k, none⟩ = false) := fun w1 hb => ⟨(hb.cell (p := ⟨x, 0, none⟩) hxl hxi).trans hx, (hr.but hb hri).cell hk, (hr.but hb hri).fro k⟩
  have hrl := hr.lt
  generalize hL : (if e = 0 then (tlR l).1 else []) = L
  have HE : Hid (∀ w1 vv, But ib w w1 → Vs w1 vv L → Vs (w1.setCell ⟨rb, k, none⟩ vv) vv L ∧ Aft w (w1.setCell ⟨rb, k, none⟩ vv) ib rb cs k vv) := fun w1 vv hb hd => ⟨vs_set (hr.but hb hri) hp hd _, aft_of _ hb (hr.but hb hri)⟩
  have CB : ∀ W, W = w ∨ W = w.drew → Calls Try.prog 74 #[.pointer (some ⟨ib, 0, none⟩)] W (TvP w ib L) := fun W hW => by
    rw [← hL]
    rcases hW with rfl | rfl
    · exact takeVars_all h (by omega)
    · exact (takeVars_all (rd_drew h) (by omega)).mono fun r w' ⟨a, n, c, ok, h1, h2, h3⟩ => ⟨a, n, c, ok, h1, h2, but_drew_l h3⟩
  have c0 := hx
  have c1 := hr.cell hk
  have c2 := hr.fro k
  clear hx hr hk h hxl hxi hri hL
  go_enter Try.func73, Try.ntmps73
  go_wp2
  go_region_with (first | (go_at_call 74; refine (CB _ (by first | exact .inl rfl | exact .inr rfl)).mono ?_; rintro r w1 ⟨a, n, c, ok, rfl, d1, b1⟩; obtain ⟨y0, y1, y2⟩ := HC.out w1 b1; (have E1 : Hid (Vs (w1.setCell ⟨rb, k, none⟩ (.slice a n c)) (.slice a n c) L ∧ Aft w (w1.setCell ⟨rb, k, none⟩ (.slice a n c)) ib rb cs k (.slice a n c)) := HE.out w1 _ b1 d1); clear d1 b1 CB HC HE))
  all_goals
    go_wp2
    go_end0
    exact ⟨⟨_, rfl⟩, _, E1.out.1, E1.out.2⟩

theorem GT_ent : ∀ j, j < 13 → Ent0 (GT.getD j 0) := fun j h => by
  match j, h with
  | 0, _ => exact fun args w => by kernel_rfl
  | 1, _ => exact fun args w => by kernel_rfl
  | 2, _ => exact fun args w => by kernel_rfl
  | 3, _ => exact fun args w => by kernel_rfl
  | 4, _ => exact fun args w => by kernel_rfl
  | 5, _ => exact fun args w => by kernel_rfl
  | 6, _ => exact fun args w => by kernel_rfl
  | 7, _ => exact fun args w => by kernel_rfl
  | 8, _ => exact fun args w => by kernel_rfl
  | 9, _ => exact fun args w => by kernel_rfl
  | 10, _ => exact fun args w => by kernel_rfl
  | 11, _ => exact fun args w => by kernel_rfl
  | 12, _ => exact fun args w => by kernel_rfl

set_option maxHeartbeats 1000000 in
set_option maxRecDepth 100000 in
theorem taken_any {w : World} {fb ib : Nat} {J : Nat → World → Prop} (h0 : J 0 w)
    (hf : ∀ j W, j < 13 → J j W → ∃ g h c, Ent0 h ∧ W.cell? ⟨fb, j * 2, none⟩ = some (.func (.func g) #[] #[c]) ∧ W.cell? ⟨fb, j * 2 + 1, none⟩ = some (.func (.func h) #[] #[c]) ∧ ∀ o, Calls Try.prog h #[.pointer (some ⟨ib, 0, none⟩), c] (W.alloc o) fun e w' => (∃ v, e = .returned v) ∧ J (j + 1) w') :
    Calls Try.prog 25 #[.slice (some ⟨fb, 0, none⟩) 13 13, .pointer (some ⟨ib, 0, none⟩)] w fun e w' => (∃ v, e = .returned v) ∧ J 13 w' := by
  have H0 : Hid (J 0 w) := h0
  have HF : Hid (∀ j W, j < 13 → J j W → ∃ g h c, Ent0 h ∧ W.cell? ⟨fb, j * 2, none⟩ = some (.func (.func g) #[] #[c]) ∧ W.cell? ⟨fb, j * 2 + 1, none⟩ = some (.func (.func h) #[] #[c]) ∧ ∀ o, Calls Try.prog h #[.pointer (some ⟨ib, 0, none⟩), c] (W.alloc o) fun e w' => (∃ v, e = .returned v) ∧ J (j + 1) w') := hf
  have hst0 := fun (u : World) fn c y => st0 u u.heap.size rfl 77 fn c y
  have hst1 := fun (u : World) fn c y => st1 u u.heap.size rfl 77 fn c y
  clear h0 hf
  go_enter Try.func25, Try.ntmps25
  go_wp2
  go_loopw [8] (fun v8 wr => ∃ i : Nat, i ≤ 13 ∧ v8 = .int .i64 (i : Int) ∧ Hid (J i wr)) (fun v8 _ => 13 - (intOf v8).toNat)
  case atStart => exact ⟨0, Nat.zero_le _, rfl, H0.out⟩
  case round =>
    clear H0
    obtain ⟨i, hi, rfl, HJ⟩ := hrel
    by_cases hlt : i < 13
    · have hlt' : (i : Int) < 13 := by omega
      have hi0' : (0 : Int) ≤ (i : Int) := by omega
      obtain ⟨g, h, c, ek, c0, c1, CG⟩ := HF.out i wr hlt HJ.out
      have HG : Hid (∀ o, Calls Try.prog h #[.pointer (some ⟨ib, 0, none⟩), c] (wr.alloc o) fun e w' => (∃ v, e = .returned v) ∧ J (i + 1) w') := CG
      unfold Ent0 at ek
      have hs0 := hst0 wr
      have hs1 := hst1 wr
      clear CG hst0 hst1 HJ HF
      go_wp2
      refine (HG.out _).mono ?_
      rintro e w2 ⟨⟨v, rfl⟩, j2⟩
      have J2 : Hid (J (i + 1) w2) := j2
      clear j2 HG
      go_wp2
      go_roundw
      case rel => exact ⟨i + 1, by omega, by simp, J2.out⟩
      case measure => simp [intOf]; omega
    · obtain rfl : i = 13 := by omega
      have J9 : Hid (J 13 wr) := HJ.out
      clear HJ HF hst0 hst1
      go_wp2
      go_end0
      exact ⟨⟨_, rfl⟩, J9.out⟩
end Go.Proofs.Ytippnkendoghpaa.r12

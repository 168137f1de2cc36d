/-
  Package book: gather, the closure of Due.
-/
import Derived.Test.YthmfcloecmnfnaaGreatB16Emt
import Derived.Test.YthmfcloecmnfnaaGreatB16Fre
namespace Go.Proofs.YthmfcloecmnfnaaGreat.f13
open Go.RowKit Go.Shelf Go.Sort
open Go.Lib hiding intOf

set_option maxRecDepth 100000 in
/-- a record more behind those that are due -/
theorem gat_run {B : Nat} {W : World} {g : Nat} {ea : Option Addr} {ec : Nat} {el : List Rc} {M : List Rw} (x : Rc) (hx : x.vv.oneCell' = true) (h : Own B W (ob 37 1 g [.slice ea el.length ec] :: Rc.rw (.slice ea el.length ec) el :: M)) (hel : ((el.length + 1) + (el.length + 1) / 4 + 192) * 144 ≤ 281474976710656) :
    ∃ v' w', (Builtin.append_ #[37, 37] 37 #[.slice ea el.length ec, .slice (some ⟨W.heap.size, 0, none⟩) 1 1]).run Tryz.prog (W.alloc (.cells x.cs.toArray 63)) = .ok v' w' ∧ (∃ a n c, v' = .slice a n c) ∧ (w'.cell? ⟨g, 0, none⟩ = some (.slice ea el.length ec) ∧ w'.frozen? ⟨g, 0, none⟩ = false) ∧
      Own B (w'.setCell ⟨g, 0, none⟩ v') (ob 37 1 g [v'] :: Rc.rw v' (el ++ [x]) :: M) ∧ Ch (fun b => b = g ∨ (Value.slice ea el.length ec).ownBlock = some b) W (w'.setCell ⟨g, 0, none⟩ v') ∧ (∀ b, v'.ownBlock = some b → (Value.slice ea el.length ec).ownBlock = some b ∨ W.heap.size ≤ b) := by
  obtain ⟨i9, hi9, hz0, hz1, hz2⟩ := info_parts infoRc
  have hW' : Below W.heap.size W (W.alloc (.cells x.cs.toArray 63)) := (Below.refl _ W).alloc (Nat.le_refl _) _
  have h1 := Own.up h hW'
  have r1 : (W.alloc (.cells x.cs.toArray 63)).ownsRow B 63 13 (.slice ea el.length ec) el.length (el.flatMap Rc.cs) := h1.own (Rc.rw (.slice ea el.length ec) el) (List.mem_cons_of_mem _ (List.mem_cons_self ..))
  have ho := ob.obj h1 (List.mem_cons_self ..)
  have hlt := ob.lt h (List.mem_cons_self ..)
  have hap := List.pairwise_cons.1 h1.apart
  have hoff : ∀ b, (Value.slice ea el.length ec).ownBlock = some b → b ≠ g := fun b hb e => hap.1 _ (List.mem_cons_self ..) g rfl (by rw [← e]; exact hb)
  obtain ⟨gg, cap, w', hrun, r4, g4, h4, -⟩ := run_append_where (P := Tryz.prog) (W.alloc (.cells x.cs.toArray 63)) 37 37 63 i9 _ 13 144 Tryz.underlying37 hi9 hz0 hz1 hz2 rfl (by decide) _ _ _ (row_zero r1) ⟨W.heap.size, 0, none⟩ 1 1 x.cs rfl
      (fun j u hj => by
        rw [Addr.add_lit, Nat.zero_add]
        exact (World.cell?_alloc_new W x.cs.toArray _ j).trans (by simpa using hj)) (fun u hu => Rc.one (l := [x]) (fun y hy => by rw [List.mem_singleton.1 hy]; exact hx) u (by simpa using hu)) (by decide) (fitsRc hel) hel
  have hwh : ∀ b, (Value.slice (some ⟨gg, 0, none⟩) (el.length + 1) cap).ownBlock = some b → (Value.slice ea el.length ec).ownBlock = some b ∨ W.heap.size ≤ b := fun b hb => by
    obtain rfl : gg = b := by simpa [Value.ownBlock] using hb
    rcases h4 with h4 | h4
    · exact .inl h4
    · right; have := hW'.size; omega
  have hC0 : Ch (fun b => (Value.slice ea el.length ec).ownBlock = some b) (W.alloc (.cells x.cs.toArray 63)) w' := Ch.of_grown g4 (fun b hb _ => hb)
  have hblk := hC0.block g (Array.getElem?_eq_some_iff.1 ho).1 (fun e => hoff g e rfl)
  have hob := hblk.trans ho
  have h5 : Own B w' (Rc.rw (.slice (some ⟨gg, 0, none⟩) (el.length + 1) cap) (el ++ [x]) :: ob 37 1 g [.slice ea el.length ec] :: M) := by
    refine Own.turn (r := Rc.rw (.slice ea el.length ec) el) (h1.perm (List.Perm.swap _ _ _)) hC0 ?_ (fun b hb => (hwh b hb).imp id (fun e => ?_))
    · show w'.ownsRow B 63 13 (.slice (some ⟨gg, 0, none⟩) (el.length + 1) cap) (el ++ [x]).length ((el ++ [x]).flatMap Rc.cs)
      rw [List.length_append, List.flatMap_append]
      refine row_base (by simpa using r4) (fun b hb => ?_)
      rcases hwh b hb with e | e
      · exact (r1.lt b e).1
      · omega
    · have hb' : (Value.slice (some ⟨gg, 0, none⟩) (el.length + 1) cap).ownBlock = some b := hb
      have := hW'.size
      rcases h4 with h4 | h4
      · have := (r1.lt gg h4).2
        obtain rfl : gg = b := by simpa [Value.ownBlock] using hb'
        have := ((h.own _ (List.mem_cons_of_mem _ (List.mem_cons_self ..))).lt gg h4).2
        omega
      · obtain rfl : gg = b := by simpa [Value.ownBlock] using hb'
        omega
  refine ⟨_, w', hrun, ⟨_, _, _, rfl⟩, ⟨by simp [World.cell?, hob], by simp [World.frozen?, hob]⟩, ob.put (h5.perm (List.Perm.swap _ _ _)) 0 _, ?_, hwh⟩
  exact ((Ch.of_below hW').trans (hC0.mono (fun _ _ e => .inr e))).trans ((ch_cell w' g 0 _).mono (fun b _ e => .inl (by injection e with e; exact e.symm)))
/-- what stands while what is due is gathered: the list in its block, its records -/
def Gt (lb : Nat) (W3 W : World) (L : List Rc) : Prop := ∃ v, Own lb W (ob 37 1 lb [v] :: Rc.rw v L :: []) ∧ Below lb W3 W
theorem Gt.up {lb : Nat} {W3 W W' : World} {L : List Rc} (h : Gt lb W3 W L) (hb : Below W.heap.size W W') : Gt lb W3 W' L := by
  obtain ⟨v, h1, h2⟩ := h
  have := (ob.lt h1 (List.mem_cons_self ..)).2
  exact ⟨v, Own.up h1 hb, h2.trans (hb.mono (by omega))⟩
theorem bel3 {lb rb : Nat} {W3 W : World} (h : Below lb W3 W) (hl : lb ≤ W.heap.size) (hr : lb ≤ rb) (j : Nat) (u : Value) : Below lb W3 (W.setCell ⟨rb, j, none⟩ u) :=
  h.trans (((Ch.refl (fun b => b = rb) W).setCell ⟨rb, j, none⟩ u (fun _ => rfl)).below hl (fun k hk e => by omega))
set_option maxHeartbeats 4000000 in
set_option maxRecDepth 100000 in
theorem gather_any {W3 W : World} {nb lb : Nat} {now when : Int} {L : List Rc} {r : Rc} (hg : Gt lb W3 W L) (hnb : nb < lb) (hnow : W3.cell? ⟨nb, 0, none⟩ = some (.int .i64 now)) (hvv : r.vv = .slice none 0 0) (hel : ((L.length + 1) + (L.length + 1) / 4 + 192) * 144 ≤ 281474976710656) :
    Calls Tryz.prog 18 #[.int .i64 when, .agg r.cs.toArray, .pointer (some ⟨nb, 0, none⟩), .pointer (some ⟨lb, 0, none⟩)] W fun e w' => e = .returned (.tuple #[]) ∧ Gt lb W3 w' (if when ≤ now then L ++ [({ r with cl := 1, tm := now } : Rc)] else L) := by
  obtain ⟨v, hO, hB⟩ := hg
  have hN : Hid (∀ W', Below lb W3 W' → W'.cell? ⟨nb, 0, none⟩ = some (.int .i64 now)) := fun W' hW => (hW.cell (p := ⟨nb, 0, none⟩) hnb).trans hnow
  have hltl := (ob.lt hO (List.mem_cons_self ..)).2
  have hrow : W.ownsRow lb 63 13 v L.length (L.flatMap Rc.cs) := hO.own (Rc.rw v L) (List.mem_cons_of_mem _ (List.mem_cons_self ..))
  obtain ⟨ea, ec, rfl, -⟩ := row_slice hrow
  clear hrow
  obtain ⟨r0, r1, r2, r3, r4, r5, r6, r7, r8, r9, r10, r11, rvv, rv⟩ := r
  simp only at hvv
  subst hvv
  obtain ⟨W1, hW1⟩ : ∃ W1, W.alloc (.cells #[.int .i64 r0, .int .i64 r1, .int .u64 (r2 : Int), .int .i64 r3, .int .u64 (r4 : Int), .int .u64 (r5 : Int), .int .u64 (r6 : Int), .int .i64 r7, .int .i64 r8, .string (S r9), .string (S r10), .string (S r11), .slice none 0 0] 63) = W1 := ⟨_, rfl⟩
  obtain ⟨rb, hrb⟩ : ∃ rb, W.heap.size = rb := ⟨_, rfl⟩
  have HO1 : Hid (Own lb W1 (ob 63 13 rb [.int .i64 r0, .int .i64 r1, .int .u64 (r2 : Int), .int .i64 r3, .int .u64 (r4 : Int), .int .u64 (r5 : Int), .int .u64 (r6 : Int), .int .i64 r7, .int .i64 r8, .string (S r9), .string (S r10), .string (S r11), .slice none 0 0] :: ob 37 1 lb [.slice ea L.length ec] :: Rc.rw (.slice ea L.length ec) L :: [])) := by
    rw [← hW1, ← hrb]
    exact ob.new 63 hO (by omega) _ rfl
  have HB1 : Hid (Below lb W3 W1) := by
    have h1 : Below W.heap.size W W1 := by rw [← hW1]; exact (Below.refl _ W).alloc (Nat.le_refl _) _
    exact hB.trans (h1.mono (by omega))
  have HEL : Hid (((L.length + 1) + (L.length + 1) / 4 + 192) * 144 ≤ 281474976710656 ∧ lb ≤ rb ∧ lb < rb) := ⟨hel, by omega, by omega⟩
  have hne1 : ¬ rb = lb := by omega
  have hne2 : ¬ lb = rb := by omega
  have n0 := hN.out W1 HB1.out
  have hb1 := ob.obj HO1.out (List.mem_cons_self ..)
  have f0 : W1.frozen? ⟨rb, 0, none⟩ = false := by simp [World.frozen?, hb1]
  have f3 : W1.frozen? ⟨rb, 3, none⟩ = false := by simp [World.frozen?, hb1]
  have q0 : W1.cell? ⟨rb, 0, none⟩ = some (.int .i64 r0) := by simp [World.cell?, hb1]
  have q3 : W1.cell? ⟨rb, 3, none⟩ = some (.int .i64 r3) := by simp [World.cell?, hb1]
  have hnr : ¬ nb = rb := by omega
  have hnr2 : ¬ rb = nb := by omega
  clear hb1 hO hB hnow hltl hel
  by_cases hw : when ≤ now
  · have HW : Hid (when ≤ now) := hw
    simp only [Rc.cs]
    go_enter Tryz.func18, Tryz.ntmps18
    go_upto_region 2 with fail
    try rw [hW1]
    try rw [hrb]
    go_cut [] from 9 to 12 (fun wx => Own lb wx (ob 63 13 rb [.int .i64 1, .int .i64 r1, .int .u64 (r2 : Int), .int .i64 now, .int .u64 (r4 : Int), .int .u64 (r5 : Int), .int .u64 (r6 : Int), .int .i64 r7, .int .i64 r8, .string (S r9), .string (S r10), .string (S r11), .slice none 0 0] :: ob 37 1 lb [.slice ea L.length ec] :: Rc.rw (.slice ea L.length ec) L :: []) ∧ Below lb W3 wx)
    case first =>
      go_region
      all_goals
        go_wp2_with fail
        go_meet
        case rel => first | exact ⟨(ob.put (ob.put HO1.out 0 (.int .i64 1)) 3 (.int .i64 now)).drew, (bel3 (bel3 HB1.out (Nat.le_of_lt (ob.lt HO1.out (List.mem_cons_of_mem _ (List.mem_cons_self ..))).2) HEL.out.2.1 0 _) (by show lb ≤ (W1.setCell _ _).heap.size; rw [World.size_setCell]; exact Nat.le_of_lt (ob.lt HO1.out (List.mem_cons_of_mem _ (List.mem_cons_self ..))).2) HEL.out.2.1 3 _).drew⟩
    clear q0 q3 f0 f3 n0
    obtain ⟨hO4, hB4⟩ := hcut
    have hbR := ob.obj hO4 (List.mem_cons_self ..)
    have hbL := ob.obj hO4 (List.mem_cons_of_mem _ (List.mem_cons_self ..))
    have hlt4 := (ob.lt hO4 (List.mem_cons_of_mem _ (List.mem_cons_self ..))).2
    have q0 : wc.cell? ⟨rb, 0, none⟩ = some (.int .i64 1) := by simp [World.cell?, hbR]
    have q1 : wc.cell? ⟨rb, 1, none⟩ = some (.int .i64 r1) := by simp [World.cell?, hbR]
    have q2 : wc.cell? ⟨rb, 2, none⟩ = some (.int .u64 (r2 : Int)) := by simp [World.cell?, hbR]
    have q3 : wc.cell? ⟨rb, 3, none⟩ = some (.int .i64 now) := by simp [World.cell?, hbR]
    have q4 : wc.cell? ⟨rb, 4, none⟩ = some (.int .u64 (r4 : Int)) := by simp [World.cell?, hbR]
    have q5 : wc.cell? ⟨rb, 5, none⟩ = some (.int .u64 (r5 : Int)) := by simp [World.cell?, hbR]
    have q6 : wc.cell? ⟨rb, 6, none⟩ = some (.int .u64 (r6 : Int)) := by simp [World.cell?, hbR]
    have q7 : wc.cell? ⟨rb, 7, none⟩ = some (.int .i64 r7) := by simp [World.cell?, hbR]
    have q8 : wc.cell? ⟨rb, 8, none⟩ = some (.int .i64 r8) := by simp [World.cell?, hbR]
    have q9 : wc.cell? ⟨rb, 9, none⟩ = some (.string (S r9)) := by simp [World.cell?, hbR]
    have q10 : wc.cell? ⟨rb, 10, none⟩ = some (.string (S r10)) := by simp [World.cell?, hbR]
    have q11 : wc.cell? ⟨rb, 11, none⟩ = some (.string (S r11)) := by simp [World.cell?, hbR]
    have q12 : wc.cell? ⟨rb, 12, none⟩ = some (.slice none 0 0) := by simp [World.cell?, hbR]
    have p0 : wc.cell? ⟨lb, 0, none⟩ = some (.slice ea L.length ec) := by simp [World.cell?, hbL]
    have hO4' : Own lb wc (ob 37 1 lb [.slice ea L.length ec] :: Rc.rw (.slice ea L.length ec) L :: (ob 63 13 rb [.int .i64 1, .int .i64 r1, .int .u64 (r2 : Int), .int .i64 now, .int .u64 (r4 : Int), .int .u64 (r5 : Int), .int .u64 (r6 : Int), .int .i64 r7, .int .i64 r8, .string (S r9), .string (S r10), .string (S r11), .slice none 0 0] :: [])) := by
      refine hO4.perm (perm_ac fun x => ?_)
      simp only [List.count_cons]
      ac_rfl
    have hrl : ∀ b, (Value.slice ea L.length ec).ownBlock = some b → lb ≤ b := fun b hb => ((hO4'.own (Rc.rw (.slice ea L.length ec) L) (List.mem_cons_of_mem _ (List.mem_cons_self ..))).lt b hb).1
    obtain ⟨v5, w5, hrun, ⟨b5, n5, c5, rfl⟩, ⟨k1, k2⟩, hO5, hC5, -⟩ := gat_run ⟨1, r1, r2, now, r4, r5, r6, r7, r8, r9, r10, r11, .slice none 0 0, rv⟩ rfl hO4' HEL.out.1
    have HF5 : Hid (Gt lb W3 (w5.setCell ⟨lb, 0, none⟩ (.slice b5 n5 c5)) (L ++ [(⟨1, r1, r2, now, r4, r5, r6, r7, r8, r9, r10, r11, .slice none 0 0, rv⟩ : Rc)])) := ⟨_, hO5.sub (List.Sublist.cons_cons _ (List.Sublist.cons_cons _ (List.nil_sublist _))), hB4.trans (hC5.below (Nat.le_of_lt hlt4) (fun k hk e => by rcases e with e | e; omega; have := hrl k e; omega))⟩
    clear hO4 hB4 hbR hbL hO4' hO5 hC5 hrl HO1 HB1 hlt4
    simp only [Rc.cs] at hrun
    go_wp2_with (at_builtin; refine Lib.wpList_append_run _ rfl _ _ _ _ rfl _ _ rfl rfl _ _ hrun ?_; clear hrun)
    go_end0
    refine ⟨rfl, ?_⟩
    first
    | exact HF5.out
    | (rw [if_pos HW.out]; exact HF5.out)
  · have HW : Hid (¬ when ≤ now) := hw
    have HG : Hid (Gt lb W3 W1 L) := ⟨_, HO1.out.sub (List.sublist_cons_self _ _), HB1.out⟩
    have hw2 : now < when := by omega
    simp only [Rc.cs]
    clear q0 q3 f0 f3 HO1 HB1
    go_enter Tryz.func18, Tryz.ntmps18
    go_upto_region 1 with fail
    try rw [hW1]
    go_wp2
    go_end0
    refine ⟨rfl, ?_⟩
    first
    | exact HG.out
    | (rw [if_neg (by omega)]; exact HG.out)
end Go.Proofs.YthmfcloecmnfnaaGreat.f13

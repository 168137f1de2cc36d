/-
  Package expr: a map of kinds; declarations.
-/
import Derived.Test.YtpbfdaijnndilaaGreatDoorGExprV
import Derived.Maps.OwnSet
import Derived.Deep.CutRange
namespace Go.Proofs.YtpbfdaijnndilaaGreatDoor.x10
open Go.RowKit Go.Shelf Go.Sort
open Go.Lib hiding intOf
open Go.Maps

theorem strKey : Maps.Keyed Tryz.prog 9 := Maps.string_keyed Tryz.underlying9
theorem keyS {s : ByteArray} (h : s.size ≤ maxLen) : keyOf Tryz.prog 9 (.string s) = some (.string s.data.toList) := by
  rw [keyOf_string Tryz.underlying9]
  simp [mapKey, Tryz.underlying9, h]
/-- how a number reads -/
def rdI (v : Value) : Option (DataW Unit × List MemPlace) := match v with
  | .int .i64 k => some (.lit (.int .i64 k), [])
  | _ => none
theorem rdI_inv {v : Value} {k : Int} {ps : List MemPlace} (h : rdI v = some (.lit (.int .i64 k), ps)) : v = .int .i64 k := by
  unfold rdI at h
  split at h
  · simp only [Option.some.injEq, Prod.mk.injEq, DataW.lit.injEq, Lit.int.injEq, true_and] at h
    rw [h.1]
  · cases h
/-- the map in block mb has, of names, those of which q says so, with that kind; it was put into n times -/
def Km (w : World) (mb n : Nat) (q : ByteArray → Option Int) : Prop := ∃ D : DataW Unit, w.ownsMap Tryz.prog 9 rdI mb n D ∧ ∀ k : ByteArray, Maps.has D (.string k.data.toList) = (q k).isSome ∧ D.atKey (.string k.data.toList) (.lit (.int .i64 0)) = .lit (.int .i64 ((q k).getD 0))
theorem Km.made (w : World) : Km (w.alloc (.map #[] 0)) w.heap.size 0 (fun _ => none) := ⟨_, World.ownsMap_made w Tryz.prog 9 rdI, fun _ => ⟨rfl, rfl⟩⟩
theorem Km.put {w : World} {mb n : Nat} {q : ByteArray → Option Int} (h : Km w mb n q) (hn : n < maxLen) {k : ByteArray} (hk : k.size ≤ maxLen) (x : Int) :
    ∃ w', (Instr.mapUpdate 76 (.map (some mb)) (.string k) (.int .i64 x)).run Tryz.prog w = .ok () w' ∧ Km w' mb (n + 1) (fun z => if k = z then some x else q z) ∧ w.grownBy w' (some mb) := by
  obtain ⟨D, hD, hq⟩ := h
  obtain ⟨w', hrun, ho, hg⟩ := hD.update strKey Tryz.underlying76 hn (keyS hk) (val := .int .i64 x) (d := .lit (.int .i64 x)) (ps := []) rfl
  refine ⟨w', hrun, ⟨_, ho, fun z => ?_⟩, hg⟩
  by_cases e : k = z
  · subst e
    simp only [if_true]
    rw [ has_put_same hD.isMap (by trivial), atKey_put_same hD.isMap (by trivial)]
    exact ⟨rfl, rfl⟩
  · have hne : (Lit.string z.data.toList) ≠ .string k.data.toList := by
      intro e'
      injection e' with e'
      exact e (key_ext e').symm
    simp only [if_neg e]
    rw [has_put_other hne, atKey_put_other hne]
    exact hq z
theorem Km.look {w : World} {mb n : Nat} {q : ByteArray → Option Int} (h : Km w mb n q) {k : ByteArray} (hk : k.size ≤ maxLen) :
    (Instr.lookup 76 (.map (some mb)) (.string k) true).run Tryz.prog w = .ok (.tuple #[.int .i64 ((q k).getD 0), .bool (q k).isSome]) w := by
  obtain ⟨D, hD, hq⟩ := h
  obtain ⟨v, ps, hrun, hR⟩ := hD.look_ok strKey Tryz.underlying76 (Tryz.zeroValue3 w) (zd := .lit (.int .i64 0)) (zp := []) rfl (keyS hk)
  rw [(hq k).2] at hR
  rw [rdI_inv hR, (hq k).1] at hrun
  exact hrun
theorem Km.ch {X : Nat → Prop} {w w' : World} {mb n : Nat} {q : ByteArray → Option Int} (h : Km w mb n q) (hc : Ch X w w') (hX : ¬ X mb) : Km w' mb n q := by
  obtain ⟨D, ⟨es, clock, hb, rest⟩, hq⟩ := h
  exact ⟨D, ⟨es, clock, hc.obj hb hX, rest⟩, hq⟩
theorem Km.lt {w : World} {mb n : Nat} {q : ByteArray → Option Int} (h : Km w mb n q) : mb < w.heap.size := by
  obtain ⟨D, ⟨es, clock, hb, rest⟩, hq⟩ := h
  exact (Array.getElem?_eq_some_iff.1 hb).1
theorem Km.below {w w' : World} {mb n : Nat} {q : ByteArray → Option Int} (h : Km w mb n q) (hb : Below w.heap.size w w') : Km w' mb n q := h.ch (Ch.of_below (X := fun _ => False) hb) (fun e => e)

/-- a declaration -/
abbrev D10 := ByteArray × Int
/-- a slice of declarations -/
def Ds (w : World) (v : Value) (l : List D10) : Prop :=
  ∃ a cap, v = .slice a l.length cap ∧ (l = [] ∨ ∃ b off, a = some ⟨b, off, none⟩ ∧ b < w.heap.size ∧ ∀ (j : Nat) (h : j < l.length), w.cell? ⟨b, off + j * 2, none⟩ = some (.string l[j].1) ∧ w.cell? ⟨b, off + j * 2 + 1, none⟩ = some (.int .i64 l[j].2))
theorem Ds.below {w w' : World} {v : Value} {l : List D10} (h : Ds w v l) (hb : Below w.heap.size w w') : Ds w' v l := by
  obtain ⟨a, cap, rfl, h⟩ := h
  refine ⟨a, cap, rfl, h.imp id ?_⟩
  rintro ⟨b, off, rfl, hlt, hc⟩
  exact ⟨b, off, rfl, Nat.lt_of_lt_of_le hlt hb.size, fun j hj => ⟨(hb.cell (p := ⟨b, off + j * 2, none⟩) hlt).trans (hc j hj).1, (hb.cell (p := ⟨b, off + j * 2 + 1, none⟩) hlt).trans (hc j hj).2⟩⟩
theorem Ds.at {w : World} {v : Value} {l : List D10} (h : Ds w v l) {i : Nat} (hi : i < l.length) : ∃ b off cap, v = .slice (some ⟨b, off, none⟩) l.length cap ∧ b < w.heap.size ∧ w.cell? ⟨b, off + i * 2, none⟩ = some (.string l[i].1) ∧ w.cell? ⟨b, off + i * 2 + 1, none⟩ = some (.int .i64 l[i].2) := by
  obtain ⟨a, cap, rfl, h⟩ := h
  rcases h with rfl | ⟨b, off, rfl, hlt, hc⟩
  · cases hi
  · exact ⟨b, off, cap, rfl, hlt, hc i hi⟩
/-- what declared comes to: from the i-th on, with what q has -/
def dcl : List D10 → (ByteArray → Option Int) → Option (ByteArray → Option Int)
  | [], q => some q
  | d :: t, q => if namV d.1.data.toList = false ∨ (q d.1).isSome = true ∨ d.2 < 1 ∨ 3 < d.2 then none else dcl t (fun z => if d.1 = z then some d.2 else q z)
theorem dcl_cons (d : D10) (t : List D10) (q : ByteArray → Option Int) : dcl (d :: t) q = if namV d.1.data.toList = false ∨ (q d.1).isSome = true ∨ d.2 < 1 ∨ 3 < d.2 then none else dcl t (fun z => if d.1 = z then some d.2 else q z) := rfl
end Go.Proofs.YtpbfdaijnndilaaGreatDoor.x10
namespace Go.Proofs.YtpbfdaijnndilaaGreatDoor.x10
open Go.RowKit Go.Shelf Go.Sort
open Go.Lib hiding intOf

/-- how declared ends -/
def DcP (w : World) (r : Option (ByteArray → Option Int)) (e : Ending) (w' : World) : Prop := match r with
  | some q => ∃ mb n, e = .returned (.tuple #[.map (some mb), .bool true]) ∧ Km w' mb n q ∧ Below w.heap.size w w'
  | none => e = .returned (.tuple #[.map none, .bool false]) ∧ Below w.heap.size w w'
set_option maxHeartbeats 4000000 in
set_option maxRecDepth 100000 in
theorem declared_any {w : World} {v : Value} {l : List D10} (hV : Ds w v l) (hn : l.length ≤ 4611686018427387904) (hsz : ∀ d ∈ l, d.1.size ≤ 4611686018427387904) : Calls Tryz.prog 34 #[v] w (DcP w (dcl l (fun _ => none))) := by
  have hmm := @run_makeMap Tryz.prog
  have HV : Hid (Ds w v l) := hV
  have HZ : Hid (∀ d ∈ l, d.1.size ≤ 4611686018427387904) := hsz
  obtain ⟨va, vcap, rfl, -⟩ := hV
  obtain ⟨R, hR⟩ : ∃ R, dcl l (fun _ => none) = R := ⟨_, rfl⟩
  rw [hR]
  have HR : Hid (dcl l (fun _ => none) = R) := hR
  clear hR hsz
  go_enter Tryz.func34, Tryz.ntmps34
  go_wp2
  go_loopw [12] (fun v12 wr => ∃ (i : Nat) (q : ByteArray → Option Int), v12 = .int .i64 (i : Int) ∧ i ≤ l.length ∧ Hid (Km wr w.heap.size i q) ∧ Hid (Below w.heap.size w wr) ∧ Hid (dcl (l.drop i) q = R)) (fun v12 _ => l.length - (intOf v12).toNat)
  case atStart => exact ⟨0, _, rfl, Nat.zero_le _, Km.made w, (Below.refl _ w).alloc (Nat.le_refl _) _, HR⟩
  case round =>
    obtain ⟨i, q, rfl, hi, HK, HB, HD⟩ := hrel
    by_cases hlt : i < l.length
    · obtain ⟨b, off, cap, hsl, hbl, d0, d1⟩ := (HV.out.below HB.out).at hlt
      cases hsl
      have hdr : l.drop i = l[i] :: l.drop (i + 1) := List.drop_eq_getElem_cons hlt
      have hD := HD.out
      rw [hdr, dcl_cons] at hD
      have hnz0 := HZ.out l[i] (List.getElem_mem hlt)
      obtain ⟨nm, hnm⟩ : ∃ nm, l[i].1 = nm := ⟨_, rfl⟩
      obtain ⟨kd, hkd⟩ : ∃ kd, l[i].2 = kd := ⟨_, rfl⟩
      rw [hnm] at d0 hD hnz0
      rw [hkd] at d1 hD
      have hnz : nm.size ≤ maxLen := by unfold maxLen; omega
      have i1 : (0 : Int) ≤ (i : Int) := by omega
      have i2 : (i : Int) < (l.length : Int) := by omega
      have CN := fun W => Named_any nm hnz0 W
      clear hdr hnm hkd HD
      by_cases hbad : namV nm.data.toList = false ∨ (q nm).isSome = true ∨ kd < 1 ∨ 3 < kd
      · rw [if_pos hbad] at hD
        subst hD
        obtain ⟨W1, hW1⟩ : ∃ W1, wr.alloc (.cells #[.string nm, .int .i64 kd] 52) = W1 := ⟨_, rfl⟩
        have hb1 : Below wr.heap.size wr W1 := by rw [← hW1]; exact (Below.refl _ wr).alloc (Nat.le_refl _) _
        have z0 : W1.cell? ⟨wr.heap.size, 0, none⟩ = some (.string nm) := by rw [← hW1]; exact World.cell?_alloc_new _ _ _ 0
        have z1 : W1.cell? ⟨wr.heap.size, 1, none⟩ = some (.int .i64 kd) := by rw [← hW1]; exact World.cell?_alloc_new _ _ _ 1
        have hlw : wr.heap.size < W1.heap.size := by rw [← hW1]; simp
        have hlk := (HK.out.below hb1).look hnz
        have HB1 : Hid (Below w.heap.size w W1) := HB.out.trans (hb1.mono HB.out.size)
        have HW : Hid (_ = W1) := hW1
        clear hb1 hW1 hnz hnz0
        have hbc : namV nm.data.toList = false ∨ (namV nm.data.toList = true ∧ (q nm).isSome = true) ∨ (namV nm.data.toList = true ∧ (q nm).isSome = false ∧ kd < 1) ∨ (namV nm.data.toList = true ∧ (q nm).isSome = false ∧ ¬ kd < 1 ∧ 3 < kd) := by
          cases h1 : namV nm.data.toList with
          | false => exact .inl rfl
          | true => cases h2 : (q nm).isSome with
            | true => exact .inr (.inl ⟨rfl, rfl⟩)
            | false =>
              rw [h1, h2] at hbad
              by_cases h3 : kd < 1
              · exact .inr (.inr (.inl ⟨rfl, rfl, h3⟩))
              · exact .inr (.inr (.inr ⟨rfl, rfl, h3, by rcases hbad with h | h | h | h <;> first | cases h | omega⟩))
        clear hbad
        rcases hbc with h1 | ⟨h1, h2⟩ | ⟨h1, h2, h3⟩ | ⟨h1, h2, h3, h4⟩
        · rw [h1] at CN
          go_upto_region 5 with fail
          rw [HW.out]
          go_wp2_with (go_at_call 62; refine (CN _).mono ?_; rintro e w2 ⟨rfl, hw2⟩; rw [hw2]; clear hw2)
          go_ret2
          exact ⟨rfl, HB1.out⟩
        · rw [h1] at CN
          rw [h2] at hlk
          go_upto_region 5 with fail
          rw [HW.out]
          go_wp2_with (go_at_call 62; refine (CN _).mono ?_; rintro e w2 ⟨rfl, hw2⟩; rw [hw2]; clear hw2)
          go_ret2
          exact ⟨rfl, HB1.out⟩
        · rw [h1] at CN
          rw [h2] at hlk
          go_upto_region 5 with fail
          rw [HW.out]
          go_wp2_with (go_at_call 62; refine (CN _).mono ?_; rintro e w2 ⟨rfl, hw2⟩; rw [hw2]; clear hw2)
          go_ret2
          exact ⟨rfl, HB1.out⟩
        · rw [h1] at CN
          rw [h2] at hlk
          go_upto_region 5 with fail
          rw [HW.out]
          go_wp2_with (go_at_call 62; refine (CN _).mono ?_; rintro e w2 ⟨rfl, hw2⟩; rw [hw2]; clear hw2)
          go_ret2
          exact ⟨rfl, HB1.out⟩
      · rw [if_neg hbad] at hD
        have h1 : namV nm.data.toList = true := by cases h : namV nm.data.toList with
          | true => rfl
          | false => exact absurd (.inl h) hbad
        have h2 : (q nm).isSome = false := by cases h : (q nm).isSome with
          | false => rfl
          | true => exact absurd (.inr (.inl h)) hbad
        have h3 : ¬ kd < 1 := fun h => hbad (.inr (.inr (.inl h)))
        have h4 : ¬ 3 < kd := fun h => hbad (.inr (.inr (.inr h)))
        have HD2 : Hid (dcl (l.drop (i + 1)) (fun z => if nm = z then some kd else q z) = R) := hD
        obtain ⟨W1, hW1⟩ : ∃ W1, wr.alloc (.cells #[.string nm, .int .i64 kd] 52) = W1 := ⟨_, rfl⟩
        have hb1 : Below wr.heap.size wr W1 := by rw [← hW1]; exact (Below.refl _ wr).alloc (Nat.le_refl _) _
        have z0 : W1.cell? ⟨wr.heap.size, 0, none⟩ = some (.string nm) := by rw [← hW1]; exact World.cell?_alloc_new _ _ _ 0
        have z1 : W1.cell? ⟨wr.heap.size, 1, none⟩ = some (.int .i64 kd) := by rw [← hW1]; exact World.cell?_alloc_new _ _ _ 1
        have hlw : wr.heap.size < W1.heap.size := by rw [← hW1]; simp
        have hlk := (HK.out.below hb1).look hnz
        have HB1 : Hid (Below w.heap.size w W1) := HB.out.trans (hb1.mono HB.out.size)
        have HW : Hid (_ = W1) := hW1
        obtain ⟨w5, hrun, hk5, hg5⟩ := (HK.out.below hb1).put (by unfold maxLen; omega) hnz kd
        have HK5 : Hid (Km w5 w.heap.size (i + 1) (fun z => if nm = z then some kd else q z)) := hk5
        have HB5 : Hid (Below w.heap.size w w5) := HB1.out.grown hg5 HB1.out.size (fun k hk => by cases hk; exact Nat.le_refl _)
        rw [h1] at CN
        rw [h2] at hlk
        clear hb1 hW1 hnz hnz0 hD hbad h1 h2 hk5 hg5
        go_upto_region 5 with fail
        rw [HW.out]
        go_wp2_with (go_at_call 62; refine (CN _).mono ?_; rintro e w2 ⟨rfl, hw2⟩; rw [hw2]; clear hw2)
        go_roundw
        case rel => exact ⟨i + 1, _, by simp, hlt, HK5, HB5, HD2⟩
        case measure => simp [intOf]; omega
    · obtain rfl : i = l.length := by omega
      have hD := HD.out
      rw [List.drop_length] at hD
      unfold dcl at hD
      subst hD
      clear hi hlt
      go_wp2
      go_ret2
      exact ⟨_, _, rfl, HK.out, HB.out⟩
end Go.Proofs.YtpbfdaijnndilaaGreatDoor.x10

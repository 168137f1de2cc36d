/-
  Package expr: the texts of parts; Print.
-/
import Derived.Test.YtpbfdaijnndilaaGreatDoorX10Wri
import Derived.Lib.ItoaLen
namespace Go.Proofs.YtpbfdaijnndilaaGreatDoor.x10
open Go.RowKit Go.Shelf Go.Sort
open Go.Lib hiding intOf

def gtS (acc : List (List UInt8)) (x : Int) : List UInt8 := if 0 ≤ x then acc[x.toNat]?.getD [] else []
def wal (l : List P10) : List P10 → List (List UInt8) → List (List UInt8)
  | [], acc => acc
  | p :: t, acc => wal l t (acc ++ [wrt l p (gtS acc p.2.1) (gtS acc p.2.2.1)])
theorem wal_cons (l : List P10) (p : P10) (t : List P10) (acc : List (List UInt8)) : wal l (p :: t) acc = wal l t (acc ++ [wrt l p (gtS acc p.2.1) (gtS acc p.2.2.1)]) := rfl
/-- what Print comes to -/
def prtE (l : List P10) : List UInt8 × Int := if mayE l = true then (if 512 < ((wal l l [])[l.length - 1]?.getD []).length then ([], 13) else ((wal l l [])[l.length - 1]?.getD [], 0)) else ([], 3)
theorem gtS_at {acc : List (List UInt8)} {a : Nat} (h : a < acc.length) : gtS acc (a : Int) = acc[a] := by
  unfold gtS
  rw [if_pos (by omega), Int.toNat_natCast, List.getElem?_eq_getElem h]
  rfl
theorem gtS_no (acc : List (List UInt8)) : gtS acc (-1) = [] := rfl
theorem gtS_app {acc : List (List UInt8)} {a : Nat} (h : a < acc.length) (t : List UInt8) : gtS (acc ++ [t]) (a : Int) = gtS acc (a : Int) := by
  rw [gtS_at h, gtS_at (by rw [List.length_append]; omega), List.getElem_append_left h]
theorem wal_app (l : List P10) : ∀ (t : List P10) (acc : List (List UInt8)), ∃ r, wal l t acc = acc ++ r
  | [], acc => ⟨[], (List.append_nil _).symm⟩
  | p :: t, acc => by
    obtain ⟨r, hr⟩ := wal_app l t (acc ++ [wrt l p (gtS acc p.2.1) (gtS acc p.2.2.1)])
    exact ⟨[wrt l p (gtS acc p.2.1) (gtS acc p.2.2.1)] ++ r, by rw [wal_cons, hr, List.append_assoc]⟩
theorem wal_length (l : List P10) : ∀ (t : List P10) (acc : List (List UInt8)), (wal l t acc).length = acc.length + t.length
  | [], acc => rfl
  | p :: t, acc => by rw [wal_cons, wal_length l t, List.length_append, List.length_singleton, List.length_cons]; omega
theorem sgT_len (op : Int) : (sgT op).length ≤ 3 := by
  unfold sgT
  rcases Nat.lt_or_ge op.toNat 19 with h | h
  · exact (by decide : ∀ o : Fin 19, ((sgs[o.val]?.getD ([], 0)).1).length ≤ 3) ⟨op.toNat, h⟩
  · rw [List.getElem?_eq_none (by exact h)]; exact Nat.zero_le _
theorem shw_len {v : V9} (h : mayV v = true) (hk : Vk v) : (shw v).length ≤ 4200 := by
  unfold shw
  rw [if_pos h]
  split
  · have h1 := flat_len v.2.2
    have h2 := may_len h
    unfold quo
    rw [List.length_cons, List.length_append, List.length_singleton]
    omega
  · split
    · split <;> simp
    · have := itoa_length_le v.2.1 hk.2.1.1 hk.2.1.2
      omega
theorem brk_len (a : List UInt8) : (brk a).length = a.length + 4 := by unfold brk; simp
theorem wrt_len {l : List P10} {p : P10} (hh : hol p = true) (hk : Vk p.2.2.2) (a b : List UInt8) : (wrt l p a b).length ≤ a.length + b.length + 4220 := by
  unfold wrt
  have hs := sgT_len p.1
  split
  · rename_i h1
    have hm : mayV p.2.2.2 = true := by
      unfold hol at hh
      rw [if_pos h1, Bool.and_eq_true] at hh
      exact hh.1
    have := shw_len hm hk
    omega
  · split
    · rename_i h1 h2
      unfold hol at hh
      rw [if_neg h1, if_pos h2, Bool.and_eq_true] at hh
      have := nam_len hh.1
      omega
    · have hA : ∀ (c : Prop) [Decidable c], (if c then brk a else a).length ≤ a.length + 4 := by
        intro c _
        split
        · rw [brk_len]; exact Nat.le_refl _
        · omega
      have hB : (if rbr l p = true then brk b else b).length ≤ b.length + 4 := by
        split
        · rw [brk_len]; exact Nat.le_refl _
        · omega
      have := hA (p.1 = 5 ∨ lbr l p = true)
      split
      · rw [List.length_append, List.length_append, List.length_singleton]; omega
      · rw [List.length_append, List.length_append, List.length_append, List.length_append, List.length_singleton]; omega
def wsum (acc : List (List UInt8)) (f : List Int) : Nat := (f.map (fun x => (gtS acc x).length)).sum
theorem wsum_app (acc : List (List UInt8)) (f g : List Int) : wsum acc (f ++ g) = wsum acc f + wsum acc g := by unfold wsum; rw [List.map_append, List.sum_append]
theorem wsum_keep {acc : List (List UInt8)} {t : List UInt8} : ∀ {f : List Int}, (∀ x ∈ f, ∃ a : Nat, a < acc.length ∧ x = (a : Int)) → wsum (acc ++ [t]) f = wsum acc f
  | [], _ => rfl
  | x :: f, h => by
    obtain ⟨a, ha, e⟩ := h x (List.mem_cons_self ..)
    have h1 : wsum (acc ++ [t]) (x :: f) = (gtS (acc ++ [t]) x).length + wsum (acc ++ [t]) f := by unfold wsum; simp
    have h2 : wsum acc (x :: f) = (gtS acc x).length + wsum acc f := by unfold wsum; simp
    rw [h1, h2, wsum_keep (fun y hy => h y (List.mem_cons_of_mem _ hy)), e, gtS_app ha]
theorem wsum_two {acc : List (List UInt8)} {p : P10} : ∀ {g : List Int}, isO p g = true → (gtS acc p.2.1).length + (gtS acc p.2.2.1).length ≤ wsum acc g
  | [], h => by obtain ⟨e1, e2⟩ := isO_eq h; rw [e1, e2]; simp [gtS_no]
  | [x], h => by obtain ⟨e1, e2⟩ := isO_eq h; rw [e1, e2]; simp [gtS_no, wsum]
  | x :: y :: g, h => by obtain ⟨e1, e2⟩ := isO_eq h; rw [e1, e2]; simp [wsum]
theorem wal_len (l : List P10) : ∀ (rest : List P10) (i : Nat) (f : List Int) (r : List Int) (acc : List (List UInt8)), shpS rest i f = some r → (∀ p ∈ rest, Vk p.2.2.2) → acc.length = i → (∀ x ∈ f, ∃ a : Nat, a < i ∧ x = (a : Int)) → wsum acc f ≤ 4220 * i → (∀ x ∈ acc, x.length ≤ 4220 * i) → ∀ x ∈ wal l rest acc, x.length ≤ 4220 * (i + rest.length)
  | [], i, f, r, acc, _, _, _, _, _, ha => fun x hx => ha x hx
  | p :: t, i, f, r, acc, hr, hk, hl, hf, hs, ha => by
    rw [shpS_cons] at hr
    split at hr
    · cases hr
    · rename_i h0
      split at hr
      · cases hr
      · rename_i h1
        have hh : hol p = true := by cases q : hol p with
          | true => rfl
          | false => exact absurd (Or.inr (Or.inr q)) h0
        have hi : isO p (f.drop (f.length - (hnd p.1).toNat)) = true := by cases q : isO p (f.drop (f.length - (hnd p.1).toNat)) with
          | true => rfl
          | false => exact absurd q h1
        have hsplit : wsum acc f = wsum acc (f.take (f.length - (hnd p.1).toNat)) + wsum acc (f.drop (f.length - (hnd p.1).toNat)) := by rw [← wsum_app, List.take_append_drop]
        have h2 := wsum_two (acc := acc) hi
        have hw := wrt_len (l := l) hh (hk p (List.mem_cons_self ..)) (gtS acc p.2.1) (gtS acc p.2.2.1)
        rw [wal_cons]
        generalize wrt l p (gtS acc p.2.1) (gtS acc p.2.2.1) = u at *
        intro x hx
        have := wal_len l t (i + 1) _ r (acc ++ [u]) hr (fun q hq => hk q (List.mem_cons_of_mem _ hq)) (by rw [List.length_append, List.length_singleton, hl]) (fun y hy => by
            rcases List.mem_append.1 hy with hy | hy
            · obtain ⟨a, h3, h4⟩ := hf y (List.mem_of_mem_take hy)
              exact ⟨a, by omega, h4⟩
            · rw [List.mem_singleton] at hy
              exact ⟨i, by omega, hy⟩) (by
            rw [wsum_app, wsum_keep (fun y hy => by rw [hl]; exact hf y (List.mem_of_mem_take hy))]
            have : wsum (acc ++ [u]) [(i : Int)] = u.length := by
              unfold wsum
              simp only [List.map_cons, List.map_nil, List.sum_cons, List.sum_nil, Nat.add_zero]
              rw [← hl, gtS_at (by rw [List.length_append]; simp), List.getElem_append_right (Nat.le_refl _)]
              simp
            rw [this]
            omega) (fun y hy => by
            rcases List.mem_append.1 hy with hy | hy
            · have := ha y hy; omega
            · rw [List.mem_singleton] at hy; subst hy; omega) x hx
        rw [List.length_cons]
        omega
theorem wal_bound {l : List P10} (h : shp l = true) (hk : ∀ p ∈ l, Vk p.2.2.2) : ∀ x ∈ wal l l [], x.length ≤ 430000 := by
  have h100 := (shp_wg h).1
  unfold shp at h
  rw [Bool.and_eq_true] at h
  intro x hx
  cases q : shpS l 0 [] with
  | none => rw [q] at h; cases h.2
  | some r =>
    have := wal_len l l 0 [] r [] q hk rfl (fun y hy => by cases hy) (by simp [wsum]) (fun y hy => by cases hy) x hx
    omega
end Go.Proofs.YtpbfdaijnndilaaGreatDoor.x10
namespace Go.Proofs.YtpbfdaijnndilaaGreatDoor.x10
open Go.RowKit Go.Shelf Go.Sort
open Go.Lib hiding intOf

theorem infoStg : (Tryz.prog.info? 9).map (fun i => (i.zero, i.size, i.bytes)) = some (some (.string ⟨#[]⟩), 1, 16) := by kernel_rfl
def sv (f : List (List UInt8)) : List Value := f.map (fun x => Value.string (S x))
theorem sv_snoc (f : List (List UInt8)) (x : List UInt8) : sv f ++ [.string (S x)] = sv (f ++ [x]) := by simp [sv]
theorem shd_belowS {w w2 w5 : World} {rv : Value} {k : Nat} {xs : List Value} {o : Obj} (hb : Below w.heap.size w w2) (hr : w2.ownsRow w.heap.size 9 1 rv k xs) (hg : (w2.alloc o).grownBy w5 rv.ownBlock) : Below w.heap.size w w5 :=
  (hb.alloc hb.size _).grown hg (by have := hb.size; simp; omega) (fun k hk => (hr.lt k hk).1)
theorem row_atS {w : World} {B : Nat} {fa : Option Addr} {fc : Nat} {f : List (List UInt8)} (h : w.ownsRow B 9 1 (.slice fa f.length fc) f.length (sv f)) {a : Nat} (ha : a < f.length) : ∃ g, fa = some ⟨g, 0, none⟩ ∧ g < w.heap.size ∧ ∀ (j : Nat) (hj : j < f.length), w.cell? ⟨g, j, none⟩ = some (.string (S f[j])) := by
  obtain ⟨h1, h2⟩ := h
  rcases h2 with ⟨-, h3⟩ | ⟨g, cap, cur, h3, h4, h5, h6, h7, h8, h9⟩
  · omega
  · cases h3
    refine ⟨g, rfl, (Array.getElem?_eq_some_iff.1 h5).1, fun j hj => ?_⟩
    have h10 : (sv f)[j]? = some (.string (S f[j])) := by simp [sv, hj]
    rw [← h9, List.getElem?_take] at h10
    split at h10
    · rw [Array.getElem?_toList] at h10
      simpa [World.cell?, h5] using h10
    · cases h10

set_option maxHeartbeats 400000 in
theorem pn_any {w : World} {B : Nat} {v : Value} {l : List P10} (hE : Es w v l) (hg : Gx B w) (hB : B ≤ w.heap.size) {i : Nat} {p : P10} (h : Wf l i p) (hwg : Wg i p) (a b : List UInt8) (ha : a.length ≤ 1000000) (hb : b.length ≤ 1000000) (hv9 : Gv B w) (hk : Vk p.2.2.2) {bx : Nat} (hc : w.cell? ⟨bx, 0, none⟩ = some v) : Calls Tryz.prog 26 #[.int .i64 (i : Int), .string (S a), .string (S b), .pointer (some ⟨bx, 0, none⟩)] w fun e w' => e = .returned (.string (S (wrt l p a b))) ∧ Below w.heap.size w w' := by
  have CN := written_any hE hg hB h hwg a b ha hb hv9 hk
  obtain ⟨va, vcap, rfl, -⟩ := hE
  generalize wrt l p a b = r at *
  clear hg hB h hwg hv9 hk ha hb
  go_enter Tryz.func26, Tryz.ntmps26
  go_wp2_with (go_at_call 27; refine CN.mono ?_; rintro e w1 ⟨rfl, hb1⟩; have B1 : Hid (Below w.heap.size w w1) := hb1; clear hb1 CN)
  go_ret
  exact ⟨rfl, B1.out⟩

set_option maxHeartbeats 4000000 in
set_option maxRecDepth 100000 in
theorem alongS_any {w : World} {B : Nat} {v : Value} {l : List P10} (hE : Es w v l) (hg : Gx B w) (hv9 : Gv B w) (hB : B ≤ w.heap.size) (hsh : shp l = true) (hk : ∀ p ∈ l, Vk p.2.2.2) {bx : Nat} (hbx : bx < w.heap.size) (hc : w.cell? ⟨bx, 0, none⟩ = some v) : Calls Tryz.prog 25 #[v, .func (.func 26) #[] #[.pointer (some ⟨bx, 0, none⟩)]] w fun e w' => e = .returned (.string (S ((wal l l [])[l.length - 1]?.getD []))) ∧ Below w.heap.size w w' := by
  obtain ⟨i0, hi0, hz0, hz1, hz2⟩ := info_parts infoStg
  obtain ⟨h100, h1, -⟩ := shp_wg hsh
  have HK : Hid (∀ p ∈ l, Vk p.2.2.2) := hk
  have HL : Hid (∀ x ∈ wal l l [], x.length ≤ 430000) := wal_bound hsh hk
  have HW : Hid (∀ (i : Nat) (hi : i < l.length), Wf l i l[i] ∧ Wg i l[i]) := fun i hi => ⟨shp_wf hsh hi, (shp_wg hsh).2.2 i hi⟩
  have HE : Hid (Es w v l ∧ Gx B w ∧ B ≤ w.heap.size ∧ w.cell? ⟨bx, 0, none⟩ = some v ∧ Gv B w) := ⟨hE, hg, hB, hc, hv9⟩
  obtain ⟨va, vcap, rfl, -, -⟩ := hE
  obtain ⟨R, hR⟩ : ∃ R, wal l l [] = R := ⟨_, rfl⟩
  rw [hR] at HL ⊢
  have HR : Hid (wal l l [] = R) := hR
  clear hR hg hB hsh hc hk hv9
  go_enter Tryz.func25, Tryz.ntmps25
  go_wp2
  go_loopw [12, 5] (fun v12 v5 wr => ∃ (f : List (List UInt8)) (fa : Option Addr) (fc : Nat), v12 = .int .i64 (f.length : Int) ∧ v5 = .slice fa f.length fc ∧ f.length ≤ l.length ∧ Hid (wr.ownsRow w.heap.size 9 1 (.slice fa f.length fc) f.length (sv f)) ∧ Hid (Below w.heap.size w wr) ∧ Hid (wal l (l.drop f.length) f = R)) (fun v12 _ _ => l.length - (intOf v12).toNat)
  case atStart => exact ⟨[], none, 0, rfl, rfl, Nat.zero_le _, ⟨rfl, .inl ⟨rfl, rfl⟩⟩, Below.refl _ _, HR⟩
  case round =>
    obtain ⟨f, fa, fc, rfl, rfl, hi, HF, HB, HS⟩ := hrel
    have HD : Hid (∀ x ∈ f, x.length ≤ 430000) := fun x hx => by
      obtain ⟨r, hr⟩ := wal_app l (l.drop f.length) f
      exact HL.out x (by rw [← HS.out, hr]; exact List.mem_append_left _ hx)
    by_cases hlt : f.length < l.length
    · obtain ⟨p, hp⟩ : ∃ p, l[f.length] = p := ⟨_, rfl⟩
      have hdr : l.drop f.length = p :: l.drop (f.length + 1) := by rw [← hp]; exact List.drop_eq_getElem_cons hlt
      obtain ⟨hwf, hwg⟩ := HW.out f.length hlt
      have hkp := HK.out l[f.length] (List.getElem_mem hlt)
      rw [hp] at hwf hwg hkp
      obtain ⟨bl, off, cap, hv, hbl, hcc⟩ := HE.out.1.at hlt
      obtain ⟨c0, c1, c2, c3, c4, c5⟩ := hcc f.length hlt
      have hw' : ∀ o, wr.cell? ⟨bl, o, none⟩ = w.cell? ⟨bl, o, none⟩ := fun o => HB.out.cell (p := ⟨bl, o, none⟩) hbl
      rw [← hw', hp] at c0 c1 c2 c3 c4 c5
      cases hv
      have hblw : bl < wr.heap.size := Nat.lt_of_lt_of_le hbl HB.out.size
      obtain ⟨r, hr⟩ : ∃ r, wrt l p (gtS f p.2.1) (gtS f p.2.2.1) = r := ⟨_, rfl⟩
      have HS1 : Hid (wal l (l.drop (f.length + 1)) (f ++ [r]) = R) := by show _ = _; rw [← hr, ← wal_cons, ← hdr]; exact HS.out
      have hgl : ∀ x : Int, (gtS f x).length ≤ 1000000 := fun x => by
        unfold gtS
        split
        · by_cases hx : x.toNat < f.length
          · rw [List.getElem?_eq_getElem hx]
            exact Nat.le_trans (HD.out _ (List.getElem_mem hx)) (by omega)
          · rw [List.getElem?_eq_none (by omega)]; exact Nat.zero_le _
        · exact Nat.zero_le _
      have HNX0 : Hid (∀ w1, Below wr.heap.size wr w1 → Below w.heap.size w w1 ∧ w1.ownsRow w.heap.size 9 1 (.slice fa f.length fc) f.length (sv f)) := fun w1 hb => ⟨HB.out.trans (hb.mono HB.out.size), (Ch.of_below (X := fun _ => False) hb).row HF.out (fun _ _ e => e)⟩
      obtain ⟨W1, hW1⟩ : ∃ W1, wr.alloc (.cells #[.int .i64 p.1, .int .i64 p.2.1, .int .i64 p.2.2.1, .int .i64 p.2.2.2.1, .int .i64 p.2.2.2.2.1, .string (S p.2.2.2.2.2)] 68) = W1 := ⟨_, rfl⟩
      have ha1 : Below wr.heap.size wr W1 := by rw [← hW1]; exact (Below.refl _ wr).alloc (Nat.le_refl _) _
      have HNX : Hid (∀ w2, Below W1.heap.size W1 w2 → Below w.heap.size w w2 ∧ w2.ownsRow w.heap.size 9 1 (.slice fa f.length fc) f.length (sv f)) := fun w2 hb => HNX0.out w2 (ha1.trans (hb.mono ha1.size))
      have hB1 := (HNX0.out W1 ha1).1
      have CM := pn_any (HE.out.1.below hB1) (HE.out.2.1.below (hB1.mono HE.out.2.2.1)) (Nat.le_trans HE.out.2.2.1 hB1.size) hwf hwg (gtS f p.2.1) (gtS f p.2.2.1) (hgl _) (hgl _) (HE.out.2.2.2.2.below (hB1.mono HE.out.2.2.1)) hkp (bx := bx) ((hB1.cell (p := ⟨bx, 0, none⟩) hbx).trans HE.out.2.2.2.1)
      rw [hr] at CM
      have HWE : Hid (_ = W1) := hW1
      have hin : IntKind.i64.wrap ((f.length : Int) + 1) = ((f.length + 1 : Nat) : Int) := by rw [IntKind.wrap_i64]; omega
      clear hcc hw' HS hdr hp HNX0 hB1 ha1 hW1 hgl HD hr hkp
      obtain ⟨p1, p2, p3, p4, p5, p6⟩ := p
      simp only at c0 c1 c2 c3 c4 c5 CM HWE
      rcases hnd_cases hwf.op with ⟨q, -⟩ | ⟨q, -⟩ | ⟨q, -⟩
      · obtain ⟨e1, e2⟩ := hwg.z q
        simp only at e1 e2
        subst e1
        subst e2
        simp only [gtS_no] at CM
        have hSn : S ([] : List UInt8) = ⟨#[]⟩ := rfl
        rw [hSn] at CM
        clear hwf hwg q hSn
        obtain ⟨Sr, hSr⟩ : ∃ Sr, S r = Sr := ⟨_, rfl⟩
        have HSR : Hid (S r = Sr) := hSr
        rw [hSr] at CM
        clear hSr
        go_wp2_with (first
          | (go_at_call 26; rw [HWE.out]; refine CM.mono ?_; rintro e w2 ⟨rfl, hb2⟩; have HY : Hid _ := HNX.out w2 hb2; clear hb2 CM)
          | (at_builtin; refine wpList_append_own _ rfl _ _ 103 rfl w.heap.size 9 i0 _ 1 16 Tryz.underlying103 hi0 hz0 hz1 hz2 rfl (by decide) _ f.length (sv f) rfl (HY.out.2.alloc _) ⟨w2.heap.size, 0, none⟩ 1 1 [.string Sr] rfl rfl (new_one _ _ rfl _ _) (by simp [Value.oneCell']) (by unfold maxLen; omega) (by omega) (by have := HY.out.1.size; simp; omega) ?_; intro v5 w5 ho5 hg5 _; have HO5 : Hid _ := ho5; have HG5 : Hid _ := hg5; obtain ⟨a5, c5', rfl, -⟩ := row_slice ho5; clear ho5 hg5))
        go_roundw
        case rel =>
          have hlen : (f ++ [r]).length = f.length + 1 := by rw [List.length_append, List.length_singleton]
          refine ⟨f ++ [r], a5, c5', by rw [hlen]; simp, by rw [hlen], by rw [hlen]; omega, ?_, shd_belowS HY.out.1 HY.out.2 HG5.out, by rw [hlen]; exact HS1⟩
          show World.ownsRow _ _ _ _ _ _ _
          rw [hlen, ← sv_snoc, HSR.out]
          exact HO5.out
        case measure => simp [intOf]; omega

      · obtain ⟨⟨a, hai, e1⟩, e2⟩ := hwg.o q
        simp only at e1 e2
        subst e1
        subst e2
        simp only [gtS_no, gtS_at hai] at CM
        have hSn : S ([] : List UInt8) = ⟨#[]⟩ := rfl
        rw [hSn] at CM
        obtain ⟨g, hfa, hgl, hgc⟩ := row_atS HF.out hai
        have da := hgc a hai
        subst hfa
        clear hwf hwg q hgc hSn
        generalize S f[a] = xa at *
        have j1 : (0 : Int) ≤ (a : Int) := by omega
        have j2 : (a : Int) < (f.length : Int) := by omega
        obtain ⟨Sr, hSr⟩ : ∃ Sr, S r = Sr := ⟨_, rfl⟩
        have HSR : Hid (S r = Sr) := hSr
        rw [hSr] at CM
        clear hSr
        go_wp2_with (first
          | (go_at_call 26; rw [HWE.out]; refine CM.mono ?_; rintro e w2 ⟨rfl, hb2⟩; have HY : Hid _ := HNX.out w2 hb2; clear hb2 CM)
          | (at_builtin; refine wpList_append_own _ rfl _ _ 103 rfl w.heap.size 9 i0 _ 1 16 Tryz.underlying103 hi0 hz0 hz1 hz2 rfl (by decide) _ f.length (sv f) rfl (HY.out.2.alloc _) ⟨w2.heap.size, 0, none⟩ 1 1 [.string Sr] rfl rfl (new_one _ _ rfl _ _) (by simp [Value.oneCell']) (by unfold maxLen; omega) (by omega) (by have := HY.out.1.size; simp; omega) ?_; intro v5 w5 ho5 hg5 _; have HO5 : Hid _ := ho5; have HG5 : Hid _ := hg5; obtain ⟨a5, c5', rfl, -⟩ := row_slice ho5; clear ho5 hg5))
        go_roundw
        case rel =>
          have hlen : (f ++ [r]).length = f.length + 1 := by rw [List.length_append, List.length_singleton]
          refine ⟨f ++ [r], a5, c5', by rw [hlen]; simp, by rw [hlen], by rw [hlen]; omega, ?_, shd_belowS HY.out.1 HY.out.2 HG5.out, by rw [hlen]; exact HS1⟩
          show World.ownsRow _ _ _ _ _ _ _
          rw [hlen, ← sv_snoc, HSR.out]
          exact HO5.out
        case measure => simp [intOf]; omega

      · obtain ⟨⟨a, hai, e1⟩, a', hai', e2⟩ := hwg.t q
        simp only at e1 e2
        subst e1
        subst e2
        simp only [gtS_at hai, gtS_at hai'] at CM
        obtain ⟨g, hfa, hgl, hgc⟩ := row_atS HF.out hai
        have da := hgc a hai
        have db := hgc a' hai'
        subst hfa
        clear hwf hwg q hgc
        generalize S f[a] = xa at *
        generalize S f[a'] = xb at *
        have j1 : (0 : Int) ≤ (a : Int) := by omega
        have j2 : (a : Int) < (f.length : Int) := by omega
        have j3 : (0 : Int) ≤ (a' : Int) := by omega
        have j4 : (a' : Int) < (f.length : Int) := by omega
        obtain ⟨Sr, hSr⟩ : ∃ Sr, S r = Sr := ⟨_, rfl⟩
        have HSR : Hid (S r = Sr) := hSr
        rw [hSr] at CM
        clear hSr
        go_wp2_with (first
          | (go_at_call 26; rw [HWE.out]; refine CM.mono ?_; rintro e w2 ⟨rfl, hb2⟩; have HY : Hid _ := HNX.out w2 hb2; clear hb2 CM)
          | (at_builtin; refine wpList_append_own _ rfl _ _ 103 rfl w.heap.size 9 i0 _ 1 16 Tryz.underlying103 hi0 hz0 hz1 hz2 rfl (by decide) _ f.length (sv f) rfl (HY.out.2.alloc _) ⟨w2.heap.size, 0, none⟩ 1 1 [.string Sr] rfl rfl (new_one _ _ rfl _ _) (by simp [Value.oneCell']) (by unfold maxLen; omega) (by omega) (by have := HY.out.1.size; simp; omega) ?_; intro v5 w5 ho5 hg5 _; have HO5 : Hid _ := ho5; have HG5 : Hid _ := hg5; obtain ⟨a5, c5', rfl, -⟩ := row_slice ho5; clear ho5 hg5))
        go_roundw
        case rel =>
          have hlen : (f ++ [r]).length = f.length + 1 := by rw [List.length_append, List.length_singleton]
          refine ⟨f ++ [r], a5, c5', by rw [hlen]; simp, by rw [hlen], by rw [hlen]; omega, ?_, shd_belowS HY.out.1 HY.out.2 HG5.out, by rw [hlen]; exact HS1⟩
          show World.ownsRow _ _ _ _ _ _ _
          rw [hlen, ← sv_snoc, HSR.out]
          exact HO5.out
        case measure => simp [intOf]; omega
    · have hfl : f.length = l.length := by omega
      have hnl : ¬ (f.length : Int) < (l.length : Int) := by omega
      have HE1 : Hid (f = R) := by
        show _ = _
        rw [← HS.out, hfl, List.drop_length]
        rfl
      have hai : l.length - 1 < f.length := by omega
      obtain ⟨g, hfa, hgl, hgc⟩ := row_atS HF.out hai
      have da := hgc (l.length - 1) hai
      have HV : Hid (R[l.length - 1]?.getD [] = f[l.length - 1]) := by
        show _ = _
        rw [← HE1.out, List.getElem?_eq_getElem hai]
        rfl
      subst hfa
      generalize f[l.length - 1] = xa at *
      have hkw : IntKind.i64.wrap ((l.length : Int) - 1) = ((l.length - 1 : Nat) : Int) := by rw [IntKind.wrap_i64]; omega
      have j1 : (0 : Int) ≤ ((l.length - 1 : Nat) : Int) := by omega
      have j2 : ((l.length - 1 : Nat) : Int) < (f.length : Int) := by omega
      obtain ⟨m, hm⟩ : ∃ m, l.length - 1 = m := ⟨_, rfl⟩
      have HVV : Hid (R[l.length - 1]?.getD [] = xa) := HV.out
      rw [hm] at hkw j1 j2 da hai
      clear hgc HV HS HE1 hfl hm HD
      go_wp2
      go_ret
      rw [HVV.out]
      exact ⟨rfl, HB.out⟩

set_option maxHeartbeats 2000000 in
set_option maxRecDepth 100000 in
theorem Print_any {w : World} {B : Nat} {v : Value} {l : List P10} (hE : Es w v l) (hg : Gx B w) (hv9 : Gv B w) (hB : B ≤ w.heap.size) (hk : ∀ p ∈ l, Vk p.2.2.2) (hn : l.length ≤ 4611686018427387904) : Calls Tryz.prog 13 #[v] w fun e w' => e = .returned (.tuple #[.string (S (prtE l).1), .int .i64 (prtE l).2]) ∧ Below w.heap.size w w' := by
  have hmf : ∀ (fn : Fn) (first cap : Array Value) (w : World), (Instr.makeFunc fn first cap).run Tryz.prog w = .ok (.func fn first cap) w := fun _ _ _ _ => rfl
  obtain ⟨W1, hW1⟩ : ∃ W1, w.alloc (.cells #[v] 24) = W1 := ⟨_, rfl⟩
  have hb1 : Below w.heap.size w W1 := by rw [← hW1]; exact (Below.refl _ w).alloc (Nat.le_refl _) _
  have hc1 : W1.cell? ⟨w.heap.size, 0, none⟩ = some v := by rw [← hW1]; exact World.cell?_alloc_new _ _ _ _
  have hz1 : w.heap.size < W1.heap.size := by rw [← hW1]; simp
  have CS := Maye_any (hE.below hb1) (hg.below (hb1.mono hB)) (Nat.le_trans hB hb1.size) (fun p hp => by have := (hk p hp).2.2; omega) hn
  have HWE : Hid (_ = W1) := hW1
  cases hs : mayE l with
  | false =>
    have HM : Hid (prtE l = ([], 3)) := by show _ = _; unfold prtE; rw [if_neg (by rw [hs]; simp)]
    rw [hs] at CS
    obtain ⟨va, vcap, rfl, -⟩ := hE
    have HB : Hid (Below w.heap.size w W1) := hb1
    clear hb1 hW1 hk hg hs hv9
    go_enter Tryz.func13, Tryz.ntmps13
    go_wp2_with (go_at_call 16; rw [HWE.out]; refine CS.mono ?_; rintro e w2 ⟨rfl, hb2⟩; have HB2 : Hid _ := HB.out.trans (hb2.mono HB.out.size); clear hb2 CS)
    go_ret2
    rw [HM.out]
    exact ⟨rfl, HB2.out⟩
  | true =>
    have hsh : shp l = true := by unfold mayE at hs; rw [Bool.and_eq_true] at hs; exact hs.1
    have hpr : prtE l = (if 512 < ((wal l l [])[l.length - 1]?.getD []).length then ([], 13) else ((wal l l [])[l.length - 1]?.getD [], 0)) := by unfold prtE; rw [if_pos hs]
    have hlen : ((wal l l [])[l.length - 1]?.getD []).length ≤ 430000 := by
      have h1 := (shp_wg hsh).2.1
      have h2 := wal_length l l []
      rw [List.length_nil, Nat.zero_add] at h2
      rw [List.getElem?_eq_getElem (by omega), Option.getD_some]
      exact wal_bound hsh hk _ (List.getElem_mem _)
    rw [hs] at CS
    have HAL : Hid (∀ w2, Below W1.heap.size W1 w2 → w2.cell? ⟨w.heap.size, 0, none⟩ = some v ∧ w.heap.size < w2.heap.size ∧ Calls Tryz.prog 25 #[v, .func (.func 26) #[] #[.pointer (some ⟨w.heap.size, 0, none⟩)]] w2 fun e w' => e = .returned (.string (S ((wal l l [])[l.length - 1]?.getD []))) ∧ Hid (Below w.heap.size w w')) := fun w2 hb => by
      have hB2 : Below w.heap.size w w2 := hb1.trans (hb.mono hb1.size)
      have hc2 := (hb.cell (p := ⟨w.heap.size, 0, none⟩) hz1).trans hc1
      refine ⟨hc2, Nat.lt_of_lt_of_le hz1 hb.size, (alongS_any (hE.below hB2) (hg.below (hB2.mono hB)) (hv9.below (hB2.mono hB)) (Nat.le_trans hB hB2.size) hsh hk (Nat.lt_of_lt_of_le hz1 hb.size) hc2).mono ?_⟩
      rintro e w' ⟨rfl, hb3⟩
      exact ⟨rfl, hB2.trans (hb3.mono hB2.size)⟩
    generalize (wal l l [])[l.length - 1]?.getD [] = r at *
    obtain ⟨va, vcap, rfl, -⟩ := hE
    have hzr := S_size r
    clear hb1 hW1 hk hg hs hv9 hsh
    by_cases hr : 512 < r.length
    · have HM : Hid (prtE l = ([], 13)) := by show _ = _; rw [hpr, if_pos hr]
      clear hpr
      go_enter Tryz.func13, Tryz.ntmps13
      go_wp2_with (first
        | (go_at_call 16; rw [HWE.out]; refine CS.mono ?_; rintro e w2 ⟨rfl, hb2⟩; obtain ⟨hc2, hl2, CA⟩ := HAL.out w2 hb2; clear hb2 CS)
        | (go_at_call 25; refine CA.mono ?_; rintro e w3 ⟨rfl, HB3⟩; clear CA))
      go_ret2
      rw [HM.out]
      exact ⟨rfl, HB3.out⟩
    · have HM : Hid (prtE l = (r, 0)) := by show _ = _; rw [hpr, if_neg hr]
      clear hpr
      go_enter Tryz.func13, Tryz.ntmps13
      go_wp2_with (first
        | (go_at_call 16; rw [HWE.out]; refine CS.mono ?_; rintro e w2 ⟨rfl, hb2⟩; obtain ⟨hc2, hl2, CA⟩ := HAL.out w2 hb2; clear hb2 CS)
        | (go_at_call 25; refine CA.mono ?_; rintro e w3 ⟨rfl, HB3⟩; clear CA))
      go_ret2
      rw [HM.out]
      exact ⟨rfl, HB3.out⟩
end Go.Proofs.YtpbfdaijnndilaaGreatDoor.x10

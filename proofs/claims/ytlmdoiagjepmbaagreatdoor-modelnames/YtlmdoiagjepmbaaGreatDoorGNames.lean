/-
  Nodes renamed.
-/
import Derived.Test.YtlmdoiagjepmbaaGreatDoorGRound
import Derived.Test.YtlmdoiagjepmbaaGreatDoorGLoops
import Derived.Test.YtlmdoiagjepmbaaGreatDoorM11Tk2
namespace Go.Proofs.YtlmdoiagjepmbaaGreatDoor.m11
open Go.Proofs.YtlmdoiagjepmbaaGreatDoor.x10

/-- the new name of node i -/
def nmN (i : Nat) : List UInt8 := [122, UInt8.ofNat (97 + i / 26), UInt8.ofNat (97 + i % 26), 95]
/-- the first n nodes have new names -/
def ren (P : Pc) (n : Nat) : Pc := { P with nodes := P.nodes.mapIdx fun i x => if i < n then { x with name := nmN i } else x }

theorem nmN_nam {i : Nat} (h : i < 40) : namV (nmN i) = true := by
  have : ∀ i : Fin 40, namV (nmN i.1) = true := by decide +kernel
  exact this ⟨i, h⟩
theorem nmN_inj {i k : Nat} (h : i < 40) (hk : k < 40) (e : nmN i = nmN k) : i = k := by
  have : ∀ i k : Fin 40, nmN i.1 = nmN k.1 → i = k := by decide +kernel
  exact congrArg Fin.val (this ⟨i, h⟩ ⟨k, hk⟩ e)
theorem ren_len (P : Pc) (n : Nat) : (ren P n).nodes.length = P.nodes.length := by simp [ren]
theorem ren_at {P : Pc} {n i : Nat} (h : i < P.nodes.length) : (ren P n).nodes[i]? = some (if i < n then { P.nodes[i] with name := nmN i } else P.nodes[i]) := by
  unfold ren
  simp only [List.getElem?_mapIdx, List.getElem?_eq_getElem h, Option.map_some]
theorem ren_q {α : Type} (q : Nd → α) (hq : ∀ x n, q { x with name := n } = q x) (P : Pc) (n i : Nat) : q ((ren P n).nodes[i]?.getD n0) = q (P.nodes[i]?.getD n0) := by
  by_cases h : i < P.nodes.length
  · rw [ren_at h, List.getElem?_eq_getElem h, Option.getD_some, Option.getD_some]
    split
    · exact hq _ _
    · rfl
  · rw [List.getElem?_eq_none (by rw [ren_len]; omega), List.getElem?_eq_none (by omega)]
theorem ren_nd {α : Type} (q : Nd → α) (hq : ∀ x n, q { x with name := n } = q x) (P : Pc) (n : Nat) (i : Int) : q ((ren P n).nd i) = q (P.nd i) := ren_q q hq P n i.toNat
theorem ren_plc (q : Nd → Bool) (hq : ∀ x n, q { x with name := n } = q x) (P : Pc) (n : Nat) : plc q (ren P n).nodes = plc q P.nodes := by
  unfold plc
  rw [ren_len]
  congr 1
  apply List.filter_congr
  intro i hi
  have hi := List.mem_range.1 hi
  rw [ren_at hi, List.getElem?_eq_getElem hi, Option.map_some, Option.map_some, Option.getD_some, Option.getD_some]
  split
  · exact hq _ _
  · rfl
theorem ren_kinds (P : Pc) (n : Nat) : P.nodes.map (·.kind) = (ren P n).nodes.map (·.kind) := by
  apply List.ext_getElem?
  intro i
  rw [List.getElem?_map, List.getElem?_map]
  by_cases h : i < P.nodes.length
  · rw [ren_at h, List.getElem?_eq_getElem h]
    simp only [Option.map_some]
    split <;> rfl
  · rw [List.getElem?_eq_none (by omega), List.getElem?_eq_none (by rw [ren_len]; omega)]
theorem fwr_same {q r : Nat → Nat → Bool} {m n : Nat} (h : ∀ i, i < n → ∀ j, j < m → q j i = r j i) : fwr q m n = none → fwr r m n = none := by
  rw [fwr_none_iff, fwr_none_iff]
  intro h1 i hi j hj
  rw [← h i hi j hj]; exact h1 i hi j hj
/-- a process that may be may be with new names -/
theorem ren_chk {P : Pc} (h : (chk P).1 = 0) : chk (ren P P.nodes.length) = (0, -1) := by
  obtain ⟨ok, -⟩ := chk_zero h
  have h40 : P.nodes.length ≤ 40 := by
    have := ok.wh
    unfold whl at this
    simp only [Bool.or_eq_false_iff, decide_eq_false_iff_not] at this
    omega
  have hk : ∀ i, ((ren P P.nodes.length).nd i).kind = (P.nd i).kind := ren_nd (·.kind) (fun _ _ => rfl) P _
  have hp : ∀ i, ((ren P P.nodes.length).nd i).parent = (P.nd i).parent := ren_nd (·.parent) (fun _ _ => rfl) P _
  have hl := ren_len P P.nodes.length
  have hN : fwr (ndQ (ren P P.nodes.length)) 7 (ren P P.nodes.length).nodes.length = none := by
    rw [fwr_none_iff, hl]
    intro i hi j hj
    have h1 := ok.nd i hi j hj
    have ex : (ren P P.nodes.length).nodes[i]?.getD n0 = { P.nodes[i] with name := nmN i } := by
      rw [ren_at hi, if_pos hi, Option.getD_some]
    have ey : P.nodes[i]?.getD n0 = P.nodes[i] := by rw [List.getElem?_eq_getElem hi, Option.getD_some]
    unfold ndQ at h1 ⊢
    rw [ex]
    rw [ey] at h1
    match j, h1 with
    | 0, h1 => exact h1
    | 1, h1 =>
      show (namV (nmN i) && !(((ren P P.nodes.length).nodes.take i).any fun y => y.name == nmN i)) = true
      rw [nmN_nam (by omega), Bool.true_and, Bool.not_eq_true', List.any_eq_false]
      intro y hy he
      obtain ⟨k, hk1, rfl⟩ := List.getElem_of_mem hy
      rw [List.length_take] at hk1
      have hkN : k < P.nodes.length := by omega
      have e2 : (ren P P.nodes.length).nodes[k]'(by omega) = { P.nodes[k] with name := nmN k } := by
        have := ren_at (P := P) (n := P.nodes.length) hkN
        rw [if_pos hkN, List.getElem?_eq_getElem (by omega)] at this
        exact Option.some.inj this
      rw [List.getElem_take, e2] at he
      have := nmN_inj (by omega) (by omega) (beq_iff_eq.1 he)
      omega
    | 2, h1 =>
      show (P.nodes[i].parent == -1 || (isPl i P.nodes[i].parent && [(8 : Int)].contains ((ren P P.nodes.length).nd P.nodes[i].parent).kind)) = true
      rw [hk]; exact h1
    | 3, h1 =>
      show (if sit P.nodes[i].kind then isPl (ren P P.nodes.length).nodes.length P.nodes[i].host && wai ((ren P P.nodes.length).nd P.nodes[i].host).kind && (((ren P P.nodes.length).nd P.nodes[i].host).parent == P.nodes[i].parent) else P.nodes[i].host == -1) = true
      rw [hk, hp, hl]; exact h1
    | 4, h1 => exact h1
    | 5, h1 => exact h1
    | (_ + 6), h1 => exact h1
  have hW : whl (ren P P.nodes.length) = false := by
    have := ok.wh
    unfold whl at this ⊢
    rw [hl]; exact this
  have hS : wsc (ren P P.nodes.length) = none := by
    have e : wsc (ren P P.nodes.length) = wsc P := by
      unfold wsc
      rw [ren_plc (fun x => [(8 : Int)].contains x.kind) (fun _ _ => rfl)]
      congr 1
      funext s
      rw [ren_plc (bgn s) (fun _ _ => rfl)]
    rw [e, wsc_eq, List.find?_eq_none]
    exact fun s hs => by rw [ok.sc s hs]; exact Bool.false_ne_true
  have hF : fwr (flQ (ren P P.nodes.length)) 5 (ren P P.nodes.length).flows.length = none := by
    rw [fwr_none_iff]
    intro i hi j hj
    have h1 := ok.fl i hi j hj
    rw [← h1]
    unfold flQ
    rw [hl]
    simp only [hk, hp]
    rfl
  have hY : fwr (wyQ (ren P P.nodes.length)) 2 (ren P P.nodes.length).nodes.length = none := by
    rw [fwr_none_iff, hl]
    intro i hi j hj
    have h1 := ok.wy i hi j hj
    rw [← h1]
    unfold wyQ
    have e : ((ren P P.nodes.length).nodes[i]?.getD n0).kind = (P.nodes[i]?.getD n0).kind := ren_q (·.kind) (fun _ _ => rfl) P _ i
    simp only [e]
    rfl
  unfold chk
  rw [hW, hN, hS, hF, hY]
  rfl
theorem ren_lps {P : Pc} (h : (chk P).1 = 0) : lps P = lps (ren P P.nodes.length) := lps_same (ren_kinds P _) rfl (by rw [ren_chk h, h])
end Go.Proofs.YtlmdoiagjepmbaaGreatDoor.m11
namespace Go.Proofs.YtlmdoiagjepmbaaGreatDoor.m11
open Go.Proofs.YtlmdoiagjepmbaaGreatDoor.x10 hiding bel_of
open Go.RowKit Go.Shelf Go.Sort
open Go.Lib hiding intOf

theorem own_none7 (W : World) (T : TypeId) : (W.alloc (.cells #[] T)).ownsRow W.heap.size T 7 (.slice (some ⟨W.heap.size, 0, none⟩) 0 0) 0 [] := ⟨by simp, .inr ⟨W.heap.size, 0, #[], rfl, Nat.le_refl _, heap_alloc_new W _, Nat.le_refl _, by unfold maxLen; omega, by simp, by simp⟩⟩
/-- block g has the nodes l -/
def Cn (w : World) (g : Nat) (l : List Nd) : Prop := ∃ cur, Bo 32 w g cur ∧ ∀ (j : Nat) (h : j < l.length) (i : Nat), i < 7 → cur[j * 7 + i]? = (nc7 l[j])[i]?
theorem Cn.of {w : World} {B : Nat} {v : Value} {l : List Nd} (h : w.ownsRow B 32 7 v l.length (ncs l)) (hl : 0 < l.length) : ∃ g cap, v = .slice (some ⟨g, 0, none⟩) l.length cap ∧ B ≤ g ∧ l.length ≤ cap ∧ Cn w g l := by
  obtain ⟨h1, h2⟩ := h
  rcases h2 with ⟨h4, h3⟩ | ⟨g, cap, cur, h3, h4, h5, h6, h7, h8, h9⟩
  · omega
  · refine ⟨g, cap, h3, h4, h6, cur, h5, fun j hj i hi => ?_⟩
    have h10 : (ncs l)[j * 7 + i]? = (nc7 l[j])[i]? := ncs_at hj hi
    rwa [← h9, List.getElem?_take, if_pos (by omega), Array.getElem?_toList] at h10
theorem Cn.up {w w' : World} {g : Nat} {l : List Nd} (h : Cn w g l) (hb : Below w.heap.size w w') : Cn w' g l := by obtain ⟨a, h1, h2⟩ := h; exact ⟨a, (hb.block g h1.lt).trans h1, h2⟩
theorem Cn.far {w : World} {g : Nat} {l : List Nd} (h : Cn w g l) {k : Nat} (hk : g ≠ k) (i : Nat) (v : Value) : Cn (w.setCell ⟨k, i, none⟩ v) g l := by obtain ⟨a, h1, h2⟩ := h; exact ⟨a, h1.far hk i v, h2⟩
theorem Cn.key {w : World} {g : Nat} {l : List Nd} (h : Cn w g l) {j : Nat} (hj : j < l.length) (i : Nat) (hi : i < 7) : w.cell? ⟨g, 0 + j * 7 + i, none⟩ = (nc7 l[j])[i]? := by
  obtain ⟨a, h1, h2⟩ := h
  rw [Nat.zero_add, h1.c, h2 j hj i hi]
theorem Cn.f {w : World} {g : Nat} {l : List Nd} (h : Cn w g l) (i : Nat) : w.frozen? ⟨g, i, none⟩ = false := by obtain ⟨a, h1, h2⟩ := h; exact h1.f i
theorem Cn.lt {w : World} {g : Nat} {l : List Nd} (h : Cn w g l) : g < w.heap.size := by obtain ⟨a, h1, h2⟩ := h; exact h1.lt
theorem Cn.ns {w : World} {g cap : Nat} {l : List Nd} (h : Cn w g l) (hc : l.length ≤ cap) : Ns w (.slice (some ⟨g, 0, none⟩) l.length cap) l :=
  ⟨_, _, rfl, ⟨hc, fun e => by cases e⟩, .inr ⟨g, 0, rfl, h.lt, fun j hj => ⟨h.key hj 0 (by omega), h.key hj 1 (by omega), h.key hj 2 (by omega), h.key hj 3 (by omega), h.key hj 4 (by omega), h.key hj 5 (by omega), h.key hj 6 (by omega)⟩⟩⟩
theorem Cn.set {w : World} {g : Nat} {l : List Nd} (h : Cn w g l) {k : Nat} (hk : k < l.length) (nm : List UInt8) : Cn (w.setCell ⟨g, k * 7 + 3, none⟩ (.string (S nm))) g (l.set k { l[k] with name := nm }) := by
  obtain ⟨a, h1, h2⟩ := h
  refine ⟨_, h1.set (k * 7 + 3) _, fun j hj i hi => ?_⟩
  rw [List.length_set] at hj
  have hs : k * 7 + 3 < a.size := by
    have := h2 k hk 3 (by omega)
    exact (Array.getElem?_eq_some_iff.1 (this.trans (show (nc7 l[k])[3]? = some (.string (S l[k].name)) from rfl))).1
  by_cases e : k = j
  · subst e
    rw [List.getElem_set_self]
    by_cases e2 : i = 3
    · subst e2; rw [Array.getElem?_setIfInBounds_self_of_lt hs]; rfl
    · rw [Array.getElem?_setIfInBounds_ne (by omega), h2 k hk i hi]
      rcases (by omega : i = 0 ∨ i = 1 ∨ i = 2 ∨ i = 4 ∨ i = 5 ∨ i = 6) with rfl | rfl | rfl | rfl | rfl | rfl <;> rfl
  · rw [List.getElem_set_ne e, Array.getElem?_setIfInBounds_ne (by omega), h2 j hj i hi]
theorem Ns.cells {w : World} {b off cap n : Nat} {l : List Nd} (h : Ns w (.slice (some ⟨b, off, none⟩) n cap) l) : ∀ j u, (ncs l)[j]? = some u → w.cell? ((⟨b, off, none⟩ : Addr).add j) = some u := by
  intro j u hu
  have hj : j < l.length * 7 := by rw [← ncs_len]; exact (List.getElem?_eq_some_iff.1 hu).1
  have hq : j / 7 < l.length := by omega
  have hr : j % 7 < 7 := by omega
  have ej : j / 7 * 7 + j % 7 = j := by omega
  rw [← ej, ncs_at hq hr] at hu
  obtain ⟨a, c, hv, -, hh⟩ := h
  cases hv
  rcases hh with rfl | ⟨b2, o2, hb, -, hc⟩
  · cases hq
  cases hb
  obtain ⟨c0, c1, c2, c3, c4, c5, c6⟩ := hc (j / 7) hq
  rw [Addr.add_lit, ← hu]
  rcases (by omega : j % 7 = 0 ∨ j % 7 = 1 ∨ j % 7 = 2 ∨ j % 7 = 3 ∨ j % 7 = 4 ∨ j % 7 = 5 ∨ j % 7 = 6) with e | e | e | e | e | e | e <;> rw [e] <;> (first | rw [show off + j = off + j / 7 * 7 from by omega, c0] | rw [show off + j = off + j / 7 * 7 + 1 from by omega, c1] | rw [show off + j = off + j / 7 * 7 + 2 from by omega, c2] | rw [show off + j = off + j / 7 * 7 + 3 from by omega, c3] | rw [show off + j = off + j / 7 * 7 + 4 from by omega, c4] | rw [show off + j = off + j / 7 * 7 + 5 from by omega, c5] | rw [show off + j = off + j / 7 * 7 + 6 from by omega, c6]) <;> rfl
theorem ncs_one (l : List Nd) : ∀ u ∈ ncs l, u.oneCell' := by
  intro u hu
  unfold ncs at hu
  rw [List.mem_flatten] at hu
  obtain ⟨r, hr, hu⟩ := hu
  obtain ⟨x, -, rfl⟩ := List.mem_map.1 hr
  simp only [nc7, List.mem_cons, List.not_mem_nil, or_false] at hu
  rcases hu with rfl | rfl | rfl | rfl | rfl | rfl | rfl <;> simp [Value.oneCell']
theorem ren_zero (P : Pc) : (ren P 0).nodes = P.nodes := by
  apply List.ext_getElem?
  intro i
  by_cases h : i < P.nodes.length
  · rw [ren_at h, if_neg (by omega), List.getElem?_eq_getElem h]
  · rw [List.getElem?_eq_none (by rw [ren_len]; omega), List.getElem?_eq_none (by omega)]
theorem ren_next {P : Pc} {k : Nat} (hk : k < (ren P k).nodes.length) : (ren P (k + 1)).nodes = (ren P k).nodes.set k { (ren P k).nodes[k] with name := nmN k } := by
  have hk' : k < P.nodes.length := by rwa [ren_len] at hk
  have hx : (ren P k).nodes[k] = P.nodes[k] := by
    have := ren_at (P := P) (n := k) hk'
    rw [if_neg (by omega), List.getElem?_eq_getElem hk] at this
    exact Option.some.inj this
  apply List.ext_getElem?
  intro i
  by_cases h : i < P.nodes.length
  · rw [ren_at h]
    by_cases e : k = i
    · subst e
      rw [if_pos (by omega), List.getElem?_set_self hk, hx]
    · rw [List.getElem?_set_ne e, ren_at h]
      by_cases h2 : i < k
      · rw [if_pos (by omega), if_pos h2]
      · rw [if_neg (by omega), if_neg h2]
  · rw [List.getElem?_eq_none (by rw [ren_len]; omega), List.getElem?_eq_none (by rw [List.length_set, ren_len]; omega)]
theorem ren_pz {P : Pc} (hz : Pz P) (n : Nat) : Pz (ren P n) := by
  refine ⟨hz.id, by rw [ren_len]; exact hz.nl, hz.fl, fun x hx => ?_, hz.fz⟩
  obtain ⟨i, hi, rfl⟩ := List.getElem_of_mem hx
  have hi' : i < P.nodes.length := by rwa [ren_len] at hi
  have h1 := ren_at (P := P) (n := n) hi'
  rw [List.getElem?_eq_getElem hi] at h1
  rw [Option.some.inj h1]
  have h2 := hz.nz _ (List.getElem_mem hi')
  split
  · obtain ⟨a, b, c⟩ := h2
    exact ⟨by show 4 ≤ _; omega, b, c⟩
  · exact h2
/-- the copy of the process in block qb, its nodes in block g -/
structure Qn (W1 : World) (qb g cap : Nat) (wr : World) (id : List UInt8) (fv : Value) (l : List Nd) : Prop where
  lo : W1.heap.size ≤ qb
  hi : qb < g
  cp : l.length ≤ cap
  bel : Below W1.heap.size W1 wr
  q : Bo 25 wr qb #[.string (S id), .slice (some ⟨g, 0, none⟩) l.length cap, fv]
  row : Cn wr g l
theorem Qn.step {W1 : World} {qb g cap : Nat} {wr : World} {id : List UInt8} {fv : Value} {l : List Nd} (h : Qn W1 qb g cap wr id fv l) (o : Obj) {k : Nat} (hk : k < l.length) (nm : List UInt8) : Qn W1 qb g cap ((wr.alloc o).setCell ⟨g, k * 7 + 3, none⟩ (.string (S nm))) id fv (l.set k { l[k] with name := nm }) := by
  have ha : Below wr.heap.size wr (wr.alloc o) := (Below.refl _ wr).alloc (Nat.le_refl _) _
  have hb : Bo 25 (wr.alloc o) qb #[.string (S id), .slice (some ⟨g, 0, none⟩) l.length cap, fv] := (ha.block qb h.q.lt).trans h.q
  refine ⟨h.lo, h.hi, by rw [List.length_set]; exact h.cp, (h.bel.alloc h.bel.size _).setCell (Nat.le_trans h.lo (Nat.le_of_lt h.hi)) _, ?_, (h.row.up ha).set hk nm⟩
  rw [List.length_set]
  exact hb.far (Nat.ne_of_lt h.hi) _ _
theorem conv2 (w : World) {k : Nat} (hk : k < 40) : (convert 30 9 (.slice (some ⟨w.heap.size, 0, none⟩) 2 2)).run Tryz.prog (w.alloc (.cells #[.int .u8 (97 + (k : Int) / 26), .int .u8 (97 + (k : Int) % 26)] 5)) = .ok (.string (S [UInt8.ofNat (97 + k / 26), UInt8.ofNat (97 + k % 26)])) (w.alloc (.cells #[.int .u8 (97 + (k : Int) / 26), .int .u8 (97 + (k : Int) % 26)] 5)) := by
  refine run_convert_bytes_back (P := Tryz.prog) _ 30 9 5 ⟨w.heap.size, 0, none⟩ 2 [UInt8.ofNat (97 + k / 26), UInt8.ofNat (97 + k % 26)] Tryz.underlying30 Tryz.underlying5 Tryz.underlying9 (fun j hj => ?_)
  rw [Addr.add_lit, Nat.zero_add, World.cell?_alloc_new]
  have h1 : (UInt8.ofNat (97 + k / 26)).toNat = 97 + k / 26 := by rw [UInt8.toNat_ofNat']; omega
  have h2 : (UInt8.ofNat (97 + k % 26)).toNat = 97 + k % 26 := by rw [UInt8.toNat_ofNat']; omega
  rcases (by simp at hj; omega : j = 0 ∨ j = 1) with rfl | rfl
  · show some (Value.int .u8 (97 + (k : Int) / 26)) = some (Value.int .u8 ((UInt8.ofNat (97 + k / 26)).toNat : Int))
    rw [h1]; congr 2
  · show some (Value.int .u8 (97 + (k : Int) % 26)) = some (Value.int .u8 ((UInt8.ofNat (97 + k % 26)).toNat : Int))
    rw [h2]; congr 2
theorem Qn.start {W1 w2 w5 : World} {id : List UInt8} {nvv fv v5 : Value} {l : List Nd} (b2 : Below W1.heap.size W1 w2) (hl : 0 < l.length) (ho : w5.ownsRow (w2.heap.size + 1) 32 7 v5 (0 + l.length) ([] ++ ncs l)) (hg : ((w2.alloc (.cells #[.string (S id), nvv, fv] 25)).alloc (.cells #[] 32)).grownBy w5 (Value.slice (some ⟨w2.heap.size + 1, 0, none⟩) 0 0).ownBlock) :
    ∃ g cap, v5 = .slice (some ⟨g, 0, none⟩) l.length cap ∧ w5.cell? ⟨w2.heap.size, 1, none⟩ = some nvv ∧ w5.frozen? ⟨w2.heap.size, 1, none⟩ = false ∧ Qn W1 w2.heap.size g cap (w5.setCell ⟨w2.heap.size, 1, none⟩ (.slice (some ⟨g, 0, none⟩) l.length cap)) id fv l := by
  rw [Nat.zero_add, List.nil_append] at ho
  have hs : (w2.alloc (.cells #[.string (S id), nvv, fv] 25)).heap.size = w2.heap.size + 1 := World.size_alloc ..
  rw [← hs] at ho hg
  obtain ⟨g, cap, rfl, h1, h2, h3⟩ := Cn.of ho hl
  have hb : Below (w2.alloc (.cells #[.string (S id), nvv, fv] 25)).heap.size (w2.alloc (.cells #[.string (S id), nvv, fv] 25)) w5 := ((Below.refl _ _).alloc (Nat.le_refl _) _).grown hg (by simp) (fun k hk => ((own_none7 (w2.alloc (.cells #[.string (S id), nvv, fv] 25)) 32).lt k hk).1)
  have hq : Bo 25 w5 w2.heap.size #[.string (S id), nvv, fv] := (hb.block w2.heap.size (by simp)).trans (heap_alloc_new w2 _)
  have hlt : w2.heap.size < g := by rw [World.size_alloc] at h1; omega
  exact ⟨g, cap, rfl, hq.c 1, hq.f 1, b2.size, hlt, h2, (bel_of (b2.alloc b2.size _) hb (Nat.le_refl _)).setCell b2.size _, hq.set 1 _, h3.far (Nat.ne_of_gt hlt) _ _⟩
end Go.Proofs.YtlmdoiagjepmbaaGreatDoor.m11

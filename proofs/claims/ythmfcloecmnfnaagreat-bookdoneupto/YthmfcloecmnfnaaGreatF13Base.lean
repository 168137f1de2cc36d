/-
  States: the elements of their lists, plain and as cells; slices of elements in memory; rows of one's own that lie apart.
-/
import Derived.Test.YthmfcloecmnfnaaGreatROrd
import Derived.Deep.DeepAppendWide
namespace Go.Proofs.YthmfcloecmnfnaaGreat.f13
open Go.RowKit Go.Shelf Go.Sort
open Go.Lib hiding intOf

def S (l : List UInt8) : ByteArray := ⟨l.toArray⟩
theorem S_data (l : List UInt8) : (S l).data.toList = l := by simp [S]
theorem S_of (b : ByteArray) : S b.data.toList = b := by cases b; simp [S]
theorem S_inj {a b : List UInt8} (h : S a = S b) : a = b := by have := congrArg (fun x => x.data.toList) h; simpa [S] using this
/-- a variable -/
abbrev Vr := ByteArray × (Int × Int × List UInt8)
def Vr.c (x : Vr) : List Value := [.string x.1, .int .i64 x.2.1, .int .i64 x.2.2.1, .string (S x.2.2.2)]
abbrev Un := Nat
def Un.c (x : Un) : List Value := [.int .u64 (x : Int)]
structure De where
  id : List UInt8
  bs : List UInt8
def De.c (x : De) : List Value := [.string (S x.id), .string (S x.bs)]
structure In where
  key : Nat
  id : List UInt8
  vv : Value
  vars : List Vr
def In.c (x : In) : List Value := [.int .u64 (x.key : Int), .string (S x.id), x.vv]
structure Tk where
  key : Nat
  inst : Nat
  scope : Nat
  node : Int
  flow : Int
  stuck : List UInt8
def Tk.c (x : Tk) : List Value := [.int .u64 (x.key : Int), .int .u64 (x.inst : Int), .int .u64 (x.scope : Int), .int .i64 x.node, .int .i64 x.flow, .string (S x.stuck)]
structure Jb where
  key : Nat
  token : Nat
  typ : List UInt8
  retr : Int
  wkr : List UInt8
  unt : Int
def Jb.c (x : Jb) : List Value := [.int .u64 (x.key : Int), .int .u64 (x.token : Int), .string (S x.typ), .int .i64 x.retr, .string (S x.wkr), .int .i64 x.unt]
structure Tm where
  token : Nat
  node : Int
  at_ : Int
def Tm.c (x : Tm) : List Value := [.int .u64 (x.token : Int), .int .i64 x.node, .int .i64 x.at_]
structure Sb where
  token : Nat
  inst : Nat
  node : Int
  name : List UInt8
  key : List UInt8
  opn : Bool
def Sb.c (x : Sb) : List Value := [.int .u64 (x.token : Int), .int .u64 (x.inst : Int), .int .i64 x.node, .string (S x.name), .string (S x.key), .bool x.opn]
structure Kp where
  token : Nat
  msg : Nat
  node : Int
def Kp.c (x : Kp) : List Value := [.int .u64 (x.token : Int), .int .u64 (x.msg : Int), .int .i64 x.node]
structure Ls where
  token : Nat
  inst : Nat
  node : Int
  name : List UInt8
  key : List UInt8
  msg : Nat
  vv : Value
  vars : List Vr
def Ls.c (x : Ls) : List Value := [.int .u64 (x.token : Int), .int .u64 (x.inst : Int), .int .i64 x.node, .string (S x.name), .string (S x.key), .int .u64 (x.msg : Int), x.vv]
structure Ms where
  key : Nat
  name : List UInt8
  for_ : List UInt8
  id : List UInt8
  unt : Int
  vv : Value
  iv : Value
  vars : List Vr
  its : List Nat
def Ms.c (x : Ms) : List Value := [.int .u64 (x.key : Int), .string (S x.name), .string (S x.for_), .string (S x.id), .int .i64 x.unt, x.vv, x.iv]
/-- an element without where its lists lie -/
def In.e (x : In) : In := { x with vv := .slice none 0 0 }
def Ls.e (x : Ls) : Ls := { x with vv := .slice none 0 0 }
def Ms.e (x : Ms) : Ms := { x with vv := .slice none 0 0, iv := .slice none 0 0 }
/-- a state, with where its lists lie -/
structure St where
  pos : Nat
  done : Nat
  made : Nat
  vDe : Value
  procs : List De
  vIn : Value
  insts : List In
  vTk : Value
  tokens : List Tk
  vJb : Value
  jobs : List Jb
  vTm : Value
  timers : List Tm
  vSb : Value
  subs : List Sb
  vKp : Value
  kept : List Kp
  vLs : Value
  listed : List Ls
  vMs : Value
  msgs : List Ms
/-- what it is, wherever it lies -/
def St.e (s : St) : St := ⟨s.pos, s.done, s.made, .slice none 0 0, s.procs, .slice none 0 0, s.insts.map In.e, .slice none 0 0, s.tokens, .slice none 0 0, s.jobs, .slice none 0 0, s.timers, .slice none 0 0, s.subs, .slice none 0 0, s.kept, .slice none 0 0, s.listed.map Ls.e, .slice none 0 0, s.msgs.map Ms.e⟩
def St.c (s : St) : List Value := [.int .u64 (s.pos : Int), .int .u64 (s.done : Int), .int .u64 (s.made : Int), s.vDe, s.vIn, s.vTk, s.vJb, s.vTm, s.vSb, s.vKp, s.vLs, s.vMs]

section
variable {α : Type} {k : Nat} {c : α → List Value}
theorem fm_len (hk : ∀ x, (c x).length = k) : ∀ l : List α, (l.flatMap c).length = l.length * k
  | [] => by simp
  | x :: t => by rw [List.flatMap_cons, List.length_append, fm_len hk t, hk, List.length_cons, Nat.add_mul]; omega
theorem fm_get (hk : ∀ x, (c x).length = k) : ∀ (l : List α) (j i : Nat), i < k → (l.flatMap c)[j * k + i]? = (l[j]?).bind (fun x => (c x)[i]?)
  | [], j, i, _ => by simp
  | x :: t, 0, i, h => by rw [List.flatMap_cons, Nat.zero_mul, Nat.zero_add, List.getElem?_append_left (by rw [hk]; exact h)]; rfl
  | x :: t, j + 1, i, h => by
    rw [List.flatMap_cons, List.getElem?_append_right (by rw [hk, Nat.add_mul]; omega), show (j + 1) * k + i - (c x).length = j * k + i by rw [hk, Nat.add_mul]; omega, fm_get hk t j i h]
    rfl
theorem fm_take (hk : ∀ x, (c x).length = k) : ∀ (l : List α) (j : Nat), (l.flatMap c).take (j * k) = (l.take j).flatMap c
  | [], j => by simp
  | x :: t, 0 => by simp
  | x :: t, j + 1 => by
    rw [List.flatMap_cons, List.take_succ_cons, List.flatMap_cons, ← fm_take hk t j, List.take_append, List.take_of_length_le (by rw [hk, Nat.add_mul]; omega), hk]
    congr 2; rw [Nat.add_mul]; omega
theorem fm_drop (hk : ∀ x, (c x).length = k) : ∀ (l : List α) (j : Nat), (l.flatMap c).drop (j * k) = (l.drop j).flatMap c
  | [], j => by simp
  | x :: t, 0 => by simp
  | x :: t, j + 1 => by
    rw [List.flatMap_cons, List.drop_succ_cons, ← fm_drop hk t j, List.drop_append, List.drop_eq_nil_of_le (by rw [hk, Nat.add_mul]; omega), hk, List.nil_append]
    congr 1; rw [Nat.add_mul]; omega
/-- one cell of one element is another one -/
theorem fm_set (hk : ∀ x, (c x).length = k) (l : List α) (j i : Nat) (hj : j < l.length) (hi : i < k) (y : α) (u : Value) (hy : c y = (c l[j]).set i u) : (l.flatMap c).set (j * k + i) u = (l.set j y).flatMap c := by
  have e1 : l = l.take j ++ l[j] :: l.drop (j + 1) := by rw [List.getElem_cons_drop, List.take_append_drop]
  have e2 : l.set j y = l.take j ++ y :: l.drop (j + 1) := by rw [List.set_eq_take_append_cons_drop, if_pos hj]
  have hl : ((l.take j).flatMap c).length = j * k := by rw [fm_len hk, List.length_take, Nat.min_eq_left (by omega)]
  rw [e2]
  conv => lhs; rw [e1]
  rw [List.flatMap_append, List.flatMap_cons, List.flatMap_append, List.flatMap_cons, List.set_append_right _ _ (by omega), hl, show j * k + i - j * k = i by omega, List.set_append_left _ _ (by rw [hk]; exact hi), hy]
/-- v is a slice of these, of k cells each -/
def Rr (k : Nat) (c : α → List Value) (w : World) (v : Value) (l : List α) : Prop :=
  ∃ a cap, v = .slice a l.length cap ∧ (l.length ≤ cap ∧ (a = none → cap = 0)) ∧ (l = [] ∨ ∃ b off, a = some ⟨b, off, none⟩ ∧ b < w.heap.size ∧ ∀ (j : Nat) (h : j < l.length) (i : Nat) (u : Value), (c l[j])[i]? = some u → w.cell? ⟨b, off + j * k + i, none⟩ = some u)
theorem Rr.below {w w' : World} {v : Value} {l : List α} (h : Rr k c w v l) {B : Nat} (hb : Below B w w') (hB : w.heap.size ≤ B) : Rr k c w' v l := by
  obtain ⟨a, cap, rfl, hc, h⟩ := h
  refine ⟨a, cap, rfl, hc, h.imp id ?_⟩
  rintro ⟨b, off, rfl, hlt, hc⟩
  exact ⟨b, off, rfl, Nat.lt_of_lt_of_le hlt hb.size, fun j hj i u hu => (hb.cell (p := ⟨b, off + j * k + i, none⟩) (by simp only; omega)).trans (hc j hj i u hu)⟩
theorem Rr.up {w w' : World} {v : Value} {l : List α} (h : Rr k c w v l) (hb : Below w.heap.size w w') : Rr k c w' v l := h.below hb (Nat.le_refl _)
theorem Rr.nil (w : World) : Rr k c w (.slice none 0 0) [] := ⟨none, 0, rfl, ⟨Nat.le_refl _, fun _ => rfl⟩, .inl rfl⟩
/-- the cells of the elements -/
theorem Rr.at {w : World} {v : Value} {l : List α} (h : Rr k c w v l) {i : Nat} (hi : i < l.length) : ∃ b off cap, v = .slice (some ⟨b, off, none⟩) l.length cap ∧ l.length ≤ cap ∧ b < w.heap.size ∧ ∀ w', Below w.heap.size w w' → ∀ (j : Nat) (h : j < l.length) (i : Nat) (u : Value), (c l[j])[i]? = some u → w'.cell? ⟨b, off + j * k + i, none⟩ = some u := by
  obtain ⟨a, cap, rfl, hcap, h⟩ := h
  rcases h with rfl | ⟨b, off, rfl, hlt, hc⟩
  · cases hi
  · exact ⟨b, off, cap, rfl, hcap.1, hlt, fun w' hb j hj i u hu => (hb.cell (p := ⟨b, off + j * k + i, none⟩) hlt).trans (hc j hj i u hu)⟩
theorem Rr.row (hk : ∀ x, (c x).length = k) {w : World} {base : Nat} {t : TypeId} {v : Value} {l : List α} (h : w.ownsRow base t k v l.length (l.flatMap c)) : Rr k c w v l := by
  rcases h.2 with ⟨rfl, h0⟩ | ⟨g, cap, cur, rfl, _, hg, hnc, _⟩
  · exact ⟨none, 0, by rw [h0], ⟨by omega, fun _ => rfl⟩, .inl (List.eq_nil_of_length_eq_zero h0)⟩
  · refine ⟨some ⟨g, 0, none⟩, cap, rfl, ⟨hnc, fun e => by cases e⟩, .inr ⟨g, 0, rfl, (Array.getElem?_eq_some_iff.1 hg).1, fun j hj i u hu => ?_⟩⟩
    rw [Nat.zero_add]
    refine row_cell h ?_
    have hi : i < k := by rw [← hk l[j]]; exact (List.getElem?_eq_some_iff.1 hu).1
    rw [fm_get hk l j i hi, List.getElem?_eq_getElem hj]
    exact hu
theorem Rr.cells (hk : ∀ x, (c x).length = k) (h0 : 0 < k) {w : World} {l : List α} {ad : Addr} {cap : Nat} (h : Rr k c w (.slice (some ad) l.length cap) l) : ∀ j u, (l.flatMap c)[j]? = some u → w.cell? (ad.add j) = some u := by
  obtain ⟨a, ca, e, -, h⟩ := h
  cases e
  rcases h with rfl | ⟨b, off, e, -, hc⟩
  · intro j u hj; simp at hj
  · cases e
    intro j u hj
    have e1 : j = j / k * k + j % k := by rw [Nat.mul_comm]; exact (Nat.div_add_mod j k).symm
    have hlt : j < (l.flatMap c).length := (List.getElem?_eq_some_iff.1 hj).1
    rw [fm_len hk] at hlt
    have hq : j / k < l.length := Nat.div_lt_of_lt_mul (by rw [Nat.mul_comm]; exact hlt)
    have hm : j % k < k := Nat.mod_lt _ h0
    rw [e1, fm_get hk l (j / k) (j % k) hm, List.getElem?_eq_getElem hq] at hj
    rw [Addr.add_lit]
    have := hc (j / k) hq (j % k) u hj
    rwa [Nat.add_assoc, ← e1] at this
end
theorem De.k (x : De) : (De.c x).length = 2 := rfl
theorem In.k (x : In) : (In.c x).length = 3 := rfl
theorem Tk.k (x : Tk) : (Tk.c x).length = 6 := rfl
theorem Jb.k (x : Jb) : (Jb.c x).length = 6 := rfl
theorem Tm.k (x : Tm) : (Tm.c x).length = 3 := rfl
theorem Sb.k (x : Sb) : (Sb.c x).length = 6 := rfl
theorem Kp.k (x : Kp) : (Kp.c x).length = 3 := rfl
theorem Ls.k (x : Ls) : (Ls.c x).length = 7 := rfl
theorem Ms.k (x : Ms) : (Ms.c x).length = 7 := rfl
theorem Vr.k (x : Vr) : (Vr.c x).length = 4 := rfl
theorem Un.k (x : Un) : (Un.c x).length = 1 := rfl
theorem De.one {l : List De} : ∀ u ∈ l.flatMap De.c, u.oneCell' = true := by
  intro u hu
  obtain ⟨x, hx0, hx⟩ := List.mem_flatMap.1 hu
  simp only [De.c, List.mem_cons, List.not_mem_nil, or_false] at hx
  rcases hx with rfl | rfl <;> first | rfl
theorem In.one {l : List In} (h0 : ∀ x ∈ l, x.vv.oneCell' = true) : ∀ u ∈ l.flatMap In.c, u.oneCell' = true := by
  intro u hu
  obtain ⟨x, hx0, hx⟩ := List.mem_flatMap.1 hu
  simp only [In.c, List.mem_cons, List.not_mem_nil, or_false] at hx
  rcases hx with rfl | rfl | rfl <;> first | rfl | exact h0 _ hx0
theorem Tk.one {l : List Tk} : ∀ u ∈ l.flatMap Tk.c, u.oneCell' = true := by
  intro u hu
  obtain ⟨x, hx0, hx⟩ := List.mem_flatMap.1 hu
  simp only [Tk.c, List.mem_cons, List.not_mem_nil, or_false] at hx
  rcases hx with rfl | rfl | rfl | rfl | rfl | rfl <;> first | rfl
theorem Jb.one {l : List Jb} : ∀ u ∈ l.flatMap Jb.c, u.oneCell' = true := by
  intro u hu
  obtain ⟨x, hx0, hx⟩ := List.mem_flatMap.1 hu
  simp only [Jb.c, List.mem_cons, List.not_mem_nil, or_false] at hx
  rcases hx with rfl | rfl | rfl | rfl | rfl | rfl <;> first | rfl
theorem Tm.one {l : List Tm} : ∀ u ∈ l.flatMap Tm.c, u.oneCell' = true := by
  intro u hu
  obtain ⟨x, hx0, hx⟩ := List.mem_flatMap.1 hu
  simp only [Tm.c, List.mem_cons, List.not_mem_nil, or_false] at hx
  rcases hx with rfl | rfl | rfl <;> first | rfl
theorem Sb.one {l : List Sb} : ∀ u ∈ l.flatMap Sb.c, u.oneCell' = true := by
  intro u hu
  obtain ⟨x, hx0, hx⟩ := List.mem_flatMap.1 hu
  simp only [Sb.c, List.mem_cons, List.not_mem_nil, or_false] at hx
  rcases hx with rfl | rfl | rfl | rfl | rfl | rfl <;> first | rfl
theorem Kp.one {l : List Kp} : ∀ u ∈ l.flatMap Kp.c, u.oneCell' = true := by
  intro u hu
  obtain ⟨x, hx0, hx⟩ := List.mem_flatMap.1 hu
  simp only [Kp.c, List.mem_cons, List.not_mem_nil, or_false] at hx
  rcases hx with rfl | rfl | rfl <;> first | rfl
theorem Ls.one {l : List Ls} (h0 : ∀ x ∈ l, x.vv.oneCell' = true) : ∀ u ∈ l.flatMap Ls.c, u.oneCell' = true := by
  intro u hu
  obtain ⟨x, hx0, hx⟩ := List.mem_flatMap.1 hu
  simp only [Ls.c, List.mem_cons, List.not_mem_nil, or_false] at hx
  rcases hx with rfl | rfl | rfl | rfl | rfl | rfl | rfl <;> first | rfl | exact h0 _ hx0
theorem Ms.one {l : List Ms} (h0 : ∀ x ∈ l, x.vv.oneCell' = true) (h1 : ∀ x ∈ l, x.iv.oneCell' = true) : ∀ u ∈ l.flatMap Ms.c, u.oneCell' = true := by
  intro u hu
  obtain ⟨x, hx0, hx⟩ := List.mem_flatMap.1 hu
  simp only [Ms.c, List.mem_cons, List.not_mem_nil, or_false] at hx
  rcases hx with rfl | rfl | rfl | rfl | rfl | rfl | rfl <;> first | rfl | exact h0 _ hx0 | exact h1 _ hx0
theorem Vr.one {l : List Vr} : ∀ u ∈ l.flatMap Vr.c, u.oneCell' = true := by
  intro u hu
  obtain ⟨x, hx0, hx⟩ := List.mem_flatMap.1 hu
  simp only [Vr.c, List.mem_cons, List.not_mem_nil, or_false] at hx
  rcases hx with rfl | rfl | rfl | rfl <;> first | rfl
theorem Un.one {l : List Un} : ∀ u ∈ l.flatMap Un.c, u.oneCell' = true := by
  intro u hu
  obtain ⟨x, hx0, hx⟩ := List.mem_flatMap.1 hu
  simp only [Un.c, List.mem_cons, List.not_mem_nil, or_false] at hx
  subst hx; rfl
/-- a row of one's own: its type, cells an element, slice, length, cells -/
structure Rw where
  t : TypeId
  k : Nat
  v : Value
  n : Nat
  cs : List Value
def Rw.ok (B : Nat) (w : World) (r : Rw) : Prop := w.ownsRow B r.t r.k r.v r.n r.cs
def Rw.off (r q : Rw) : Prop := ∀ g, r.v.ownBlock = some g → q.v.ownBlock = some g → False
theorem Rw.off.symm {r q : Rw} (h : r.off q) : q.off r := fun g a b => h g b a
/-- rows of one's own, apart from each other, from block B on -/
structure Own (B : Nat) (w : World) (L : List Rw) : Prop where
  own : ∀ r ∈ L, r.ok B w
  apart : L.Pairwise Rw.off
theorem Own.nil (B : Nat) (w : World) : Own B w [] := ⟨fun _ h => absurd h List.not_mem_nil, List.Pairwise.nil⟩
theorem Own.sub {B : Nat} {w : World} {L M : List Rw} (h : Own B w L) (hs : M.Sublist L) : Own B w M := ⟨fun r hr => h.own r (hs.subset hr), h.apart.sublist hs⟩
theorem Own.perm {B : Nat} {w : World} {L M : List Rw} (h : Own B w L) (hp : L.Perm M) : Own B w M := ⟨fun r hr => h.own r (hp.mem_iff.2 hr), (hp.pairwise_iff (fun h => h.symm)).1 h.apart⟩
theorem Rw.ok.lt {B : Nat} {w : World} {r : Rw} (h : r.ok B w) : ∀ g, r.v.ownBlock = some g → B ≤ g ∧ g < w.heap.size := World.ownsRow.lt h
theorem Rw.ok.ch {B : Nat} {w w' : World} {r : Rw} {X : Nat → Prop} (h : r.ok B w) (hc : Ch X w w') (hX : ∀ g, r.v.ownBlock = some g → ¬ X g) : r.ok B w' := hc.row h hX
theorem Own.up {B : Nat} {w w' : World} {L : List Rw} (h : Own B w L) (hb : Below w.heap.size w w') : Own B w' L :=
  ⟨fun r hr => (h.own r hr).ch (Ch.of_below (X := fun _ => False) hb) (fun _ _ e => e), h.apart⟩
theorem Own.base {B B' : Nat} {w : World} {L : List Rw} (h : Own B w L) (hB : B' ≤ B) : Own B' w L := ⟨fun r hr => by
  obtain ⟨h1, h2⟩ := h.own r hr
  refine ⟨h1, h2.imp id ?_⟩
  rintro ⟨g, cap, cur, e, hb, rest⟩
  exact ⟨g, cap, cur, e, Nat.le_trans hB hb, rest⟩, h.apart⟩
/-- a row more, in new memory -/
theorem Own.add {B : Nat} {w w' : World} {L : List Rw} {r : Rw} (h : Own B w L) (hb : Below w.heap.size w w') (hr : r.ok w.heap.size w') (hB : B ≤ w.heap.size) : Own B w' (r :: L) := by
  refine ⟨fun q hq => ?_, List.pairwise_cons.2 ⟨fun q hq g hg hg' => ?_, h.apart⟩⟩
  · rcases List.mem_cons.1 hq with rfl | hq
    · exact (Own.base (L := [q]) ⟨fun x hx => by rw [List.mem_singleton.1 hx]; exact hr, List.pairwise_singleton _ _⟩ hB).own q (List.mem_singleton.2 rfl)
    · exact (h.up hb).own q hq
  · have h1 := (hr.lt g hg).1
    have h2 := ((h.own q hq).lt g hg').2
    omega
/-- a row becomes another one, in its own block or in new memory -/
theorem Own.turn {B : Nat} {w w' : World} {L : List Rw} {r r' : Rw} (h : Own B w (r :: L)) (hc : Ch (fun g => r.v.ownBlock = some g) w w') (hr : r'.ok B w') (hn : ∀ g, r'.v.ownBlock = some g → r.v.ownBlock = some g ∨ w.heap.size ≤ g) : Own B w' (r' :: L) := by
  have ha := List.pairwise_cons.1 h.apart
  refine ⟨fun q hq => ?_, List.pairwise_cons.2 ⟨fun q hq g hg hg' => ?_, ha.2⟩⟩
  · rcases List.mem_cons.1 hq with rfl | hq
    · exact hr
    · exact (h.own q (List.mem_cons_of_mem _ hq)).ch hc (fun g hg e => ha.1 q hq g e hg)
  · rcases hn g hg with e | e
    · exact ha.1 q hq g e hg'
    · have := ((h.own q (List.mem_cons_of_mem _ hq)).lt g hg').2
      omega
theorem Own.turnAt {B : Nat} {w w' : World} {A C : List Rw} {r r' : Rw} (h : Own B w (A ++ r :: C)) (hc : Ch (fun g => r.v.ownBlock = some g) w w') (hr : r'.ok B w') (hn : ∀ g, r'.v.ownBlock = some g → r.v.ownBlock = some g ∨ w.heap.size ≤ g) : Own B w' (A ++ r' :: C) :=
  ((h.perm List.perm_middle).turn hc hr hn).perm List.perm_middle.symm
theorem Own.ge {B : Nat} {w w' : World} {X : Nat → Prop} (hc : Ch X w w') (hB : B ≤ w.heap.size) (hX : ∀ g, X g → B ≤ g) : Below B w w' := hc.below hB (fun k hk e => by have := hX k e; omega)
/-- one cell of a row is set -/
theorem row_put {w : World} {B g n cap : Nat} {t : TypeId} {k : Nat} {cs : List Value} (h : w.ownsRow B t k (.slice (some ⟨g, 0, none⟩) n cap) n cs) (i : Nat) (u : Value) :
    (w.setCell ⟨g, i, none⟩ u).ownsRow B t k (.slice (some ⟨g, 0, none⟩) n cap) n (cs.set i u) := by
  obtain ⟨h1, h2⟩ := h
  refine ⟨by rw [List.length_set]; exact h1, .inr ?_⟩
  rcases h2 with ⟨e, -⟩ | ⟨g', cap', cur, e, hb, hg, hnc, hcm, hcs, htake⟩
  · cases e
  · cases e
    refine ⟨g, cap, _, rfl, hb, heap_setCell_same w g i cur t u hg, hnc, hcm, by simpa using hcs, ?_⟩
    rw [Array.toList_setIfInBounds, List.take_set, htake]
theorem row_fro {w : World} {B g n cap : Nat} {t : TypeId} {k : Nat} {cs : List Value} (h : w.ownsRow B t k (.slice (some ⟨g, 0, none⟩) n cap) n cs) (i : Nat) : w.frozen? ⟨g, i, none⟩ = false := by
  rcases h.2 with ⟨e, -⟩ | ⟨g', cap', cur, e, hb, hg, _⟩
  · cases e
  · cases e; simp [World.frozen?, hg]
theorem row_lt {w : World} {B g n cap : Nat} {t : TypeId} {k : Nat} {cs : List Value} (h : w.ownsRow B t k (.slice (some ⟨g, 0, none⟩) n cap) n cs) : B ≤ g ∧ g < w.heap.size := h.lt g rfl
/-- the rows that a state takes; its own cells in block sb -/
def In.r (x : In) : Rw := ⟨101, 4, x.vv, x.vars.length, x.vars.flatMap Vr.c⟩
def Ls.r (x : Ls) : Rw := ⟨101, 4, x.vv, x.vars.length, x.vars.flatMap Vr.c⟩
def Ms.r (x : Ms) : Rw := ⟨101, 4, x.vv, x.vars.length, x.vars.flatMap Vr.c⟩
def Ms.q (x : Ms) : Rw := ⟨22, 1, x.iv, x.its.length, x.its.flatMap Un.c⟩
def De.rw (v : Value) (l : List De) : Rw := ⟨92, 2, v, l.length, l.flatMap De.c⟩
def In.rw (v : Value) (l : List In) : Rw := ⟨95, 3, v, l.length, l.flatMap In.c⟩
def Tk.rw (v : Value) (l : List Tk) : Rw := ⟨66, 6, v, l.length, l.flatMap Tk.c⟩
def Jb.rw (v : Value) (l : List Jb) : Rw := ⟨46, 6, v, l.length, l.flatMap Jb.c⟩
def Tm.rw (v : Value) (l : List Tm) : Rw := ⟨70, 3, v, l.length, l.flatMap Tm.c⟩
def Sb.rw (v : Value) (l : List Sb) : Rw := ⟨107, 6, v, l.length, l.flatMap Sb.c⟩
def Kp.rw (v : Value) (l : List Kp) : Rw := ⟨110, 3, v, l.length, l.flatMap Kp.c⟩
def Ls.rw (v : Value) (l : List Ls) : Rw := ⟨113, 7, v, l.length, l.flatMap Ls.c⟩
def Ms.rw (v : Value) (l : List Ms) : Rw := ⟨74, 7, v, l.length, l.flatMap Ms.c⟩
def St.main (s : St) : List Rw := [De.rw s.vDe s.procs, In.rw s.vIn s.insts, Tk.rw s.vTk s.tokens, Jb.rw s.vJb s.jobs, Tm.rw s.vTm s.timers, Sb.rw s.vSb s.subs, Kp.rw s.vKp s.kept, Ls.rw s.vLs s.listed, Ms.rw s.vMs s.msgs]
def St.inner (s : St) : List Rw := s.insts.map In.r ++ (s.listed.map Ls.r ++ (s.msgs.map Ms.r ++ s.msgs.map Ms.q))
def St.rows (s : St) : List Rw := s.main ++ s.inner
def St.box (s : St) (sb : Nat) : Rw := ⟨33, 12, .slice (some ⟨sb, 0, none⟩) 1 1, 1, s.c⟩
/-- the state as a value that can be read -/
structure Sv (w : World) (s : St) : Prop where
  rDe : Rr 2 De.c w s.vDe s.procs
  rIn : Rr 3 In.c w s.vIn s.insts
  rTk : Rr 6 Tk.c w s.vTk s.tokens
  rJb : Rr 6 Jb.c w s.vJb s.jobs
  rTm : Rr 3 Tm.c w s.vTm s.timers
  rSb : Rr 6 Sb.c w s.vSb s.subs
  rKp : Rr 3 Kp.c w s.vKp s.kept
  rLs : Rr 7 Ls.c w s.vLs s.listed
  rMs : Rr 7 Ms.c w s.vMs s.msgs
  iIn : ∀ x ∈ s.insts, Rr 4 Vr.c w x.vv x.vars
  iLs : ∀ x ∈ s.listed, Rr 4 Vr.c w x.vv x.vars
  iMs : ∀ x ∈ s.msgs, Rr 4 Vr.c w x.vv x.vars
  qMs : ∀ x ∈ s.msgs, Rr 1 Un.c w x.iv x.its
theorem Sv.up {w w' : World} {s : St} (h : Sv w s) (hb : Below w.heap.size w w') : Sv w' s :=
  ⟨h.rDe.up hb, h.rIn.up hb, h.rTk.up hb, h.rJb.up hb, h.rTm.up hb, h.rSb.up hb, h.rKp.up hb, h.rLs.up hb, h.rMs.up hb, fun x hx => (h.iIn x hx).up hb, fun x hx => (h.iLs x hx).up hb, fun x hx => (h.iMs x hx).up hb, fun x hx => (h.qMs x hx).up hb⟩
theorem Own.sv {B : Nat} {w : World} {s : St} (h : Own B w s.rows) : Sv w s := by
  have hm : ∀ r ∈ s.main, r.ok B w := fun r hr => h.own r (List.mem_append_left _ hr)
  have hi : ∀ r ∈ s.inner, r.ok B w := fun r hr => h.own r (List.mem_append_right _ hr)
  refine ⟨Rr.row De.k (hm (De.rw s.vDe s.procs) (by simp [St.main])), Rr.row In.k (hm (In.rw s.vIn s.insts) (by simp [St.main])), Rr.row Tk.k (hm (Tk.rw s.vTk s.tokens) (by simp [St.main])), Rr.row Jb.k (hm (Jb.rw s.vJb s.jobs) (by simp [St.main])), Rr.row Tm.k (hm (Tm.rw s.vTm s.timers) (by simp [St.main])), Rr.row Sb.k (hm (Sb.rw s.vSb s.subs) (by simp [St.main])), Rr.row Kp.k (hm (Kp.rw s.vKp s.kept) (by simp [St.main])), Rr.row Ls.k (hm (Ls.rw s.vLs s.listed) (by simp [St.main])), Rr.row Ms.k (hm (Ms.rw s.vMs s.msgs) (by simp [St.main])), fun x hx => Rr.row Vr.k (hi (In.r x) (by simp only [St.inner, List.mem_append]; exact .inl (List.mem_map_of_mem hx))), fun x hx => Rr.row Vr.k (hi (Ls.r x) (by simp only [St.inner, List.mem_append]; exact .inr (.inl (List.mem_map_of_mem hx)))), fun x hx => Rr.row Vr.k (hi (Ms.r x) (by simp only [St.inner, List.mem_append]; exact .inr (.inr (.inl (List.mem_map_of_mem hx))))), fun x hx => Rr.row Un.k (hi (Ms.q x) (by simp only [St.inner, List.mem_append]; exact .inr (.inr (.inr (List.mem_map_of_mem hx)))))⟩
theorem infoDe : (Tryz.prog.info? 92).map (fun i => (i.zero, i.size, i.bytes)) = some (some (.agg #[.string ⟨#[]⟩, .string ⟨#[]⟩]), 2, 32) := by kernel_rfl
theorem infoIn : (Tryz.prog.info? 95).map (fun i => (i.zero, i.size, i.bytes)) = some (some (.agg #[.int .u64 0, .string ⟨#[]⟩, .slice none 0 0]), 3, 48) := by kernel_rfl
theorem infoTk : (Tryz.prog.info? 66).map (fun i => (i.zero, i.size, i.bytes)) = some (some (.agg #[.int .u64 0, .int .u64 0, .int .u64 0, .int .i64 0, .int .i64 0, .string ⟨#[]⟩]), 6, 56) := by kernel_rfl
theorem infoJb : (Tryz.prog.info? 46).map (fun i => (i.zero, i.size, i.bytes)) = some (some (.agg #[.int .u64 0, .int .u64 0, .string ⟨#[]⟩, .int .i64 0, .string ⟨#[]⟩, .int .i64 0]), 6, 64) := by kernel_rfl
theorem infoTm : (Tryz.prog.info? 70).map (fun i => (i.zero, i.size, i.bytes)) = some (some (.agg #[.int .u64 0, .int .i64 0, .int .i64 0]), 3, 24) := by kernel_rfl
theorem infoSb : (Tryz.prog.info? 107).map (fun i => (i.zero, i.size, i.bytes)) = some (some (.agg #[.int .u64 0, .int .u64 0, .int .i64 0, .string ⟨#[]⟩, .string ⟨#[]⟩, .bool false]), 6, 64) := by kernel_rfl
theorem infoKp : (Tryz.prog.info? 110).map (fun i => (i.zero, i.size, i.bytes)) = some (some (.agg #[.int .u64 0, .int .u64 0, .int .i64 0]), 3, 24) := by kernel_rfl
theorem infoLs : (Tryz.prog.info? 113).map (fun i => (i.zero, i.size, i.bytes)) = some (some (.agg #[.int .u64 0, .int .u64 0, .int .i64 0, .string ⟨#[]⟩, .string ⟨#[]⟩, .int .u64 0, .slice none 0 0]), 7, 88) := by kernel_rfl
theorem infoMs : (Tryz.prog.info? 74).map (fun i => (i.zero, i.size, i.bytes)) = some (some (.agg #[.int .u64 0, .string ⟨#[]⟩, .string ⟨#[]⟩, .string ⟨#[]⟩, .int .i64 0, .slice none 0 0, .slice none 0 0]), 7, 112) := by kernel_rfl
theorem infoVr : (Tryz.prog.info? 101).map (fun i => (i.zero, i.size, i.bytes)) = some (some (.agg #[.string ⟨#[]⟩, .int .i64 0, .int .i64 0, .string ⟨#[]⟩]), 4, 48) := by kernel_rfl
theorem infoUn : (Tryz.prog.info? 22).map (fun i => (i.zero, i.size, i.bytes)) = some (some (.int .u64 0), 1, 8) := by kernel_rfl
theorem Rr.oneCell {α : Type} {k : Nat} {c : α → List Value} {w : World} {v : Value} {l : List α} (h : Rr k c w v l) : v.oneCell' = true := by obtain ⟨a, cap, rfl, -⟩ := h; rfl
theorem bel_of {u v w : World} {B : Nat} (h : Below u.heap.size u v) (k : Below B v w) (hB : v.heap.size ≤ B) : Below u.heap.size u w := h.trans (k.mono (by have := h.size; omega))
end Go.Proofs.YthmfcloecmnfnaaGreat.f13

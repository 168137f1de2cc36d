/-
  Package disk's disk in memory: its files stand in a map, each in a block of its own.
-/
import Derived.Test.YtedcabnjcbdkaaaL4Pure
import Derived.Lib.AppendStr
namespace Go.Proofs.Ytedcabnjcbdkaaa
open Go.RowKit Go.Shelf Go.Sort
open Go.Lib hiding intOf

/-- a file: its safe bytes, its rest, its block, its slice -/
structure Lv where
  safe : ByteArray
  rest : ByteArray
  g : Nat
  bv : Value
abbrev Le := ByteArray × Lv
def Lv.all (v : Lv) : ByteArray := v.safe ++ v.rest
def sr (v : Lv) : ByteArray × ByteArray := (v.safe, v.rest)
/-- the files as the document has them -/
def fil (es : List Le) : List Fil := vals sr es
/-- a file's block as a datum -/
def dg (v : Lv) : DataW Unit := .lit (.int .i64 (v.g : Int))
/-- how a pointer to a file is read -/
def rdF : Value → Option (DataW Unit × List MemPlace)
  | .pointer (some ⟨g, 0, none⟩) => some (.lit (.int .i64 (g : Int)), [])
  | .pointer none => some (.nil, [])
  | _ => none
theorem rdF_ptr (g : Nat) : rdF (.pointer (some ⟨g, 0, none⟩)) = some (.lit (.int .i64 (g : Int)), []) := rfl
theorem rdF_inv {v : Value} {g : Nat} {ps : List MemPlace} (h : rdF v = some (.lit (.int .i64 (g : Int)), ps)) : v = .pointer (some ⟨g, 0, none⟩) := by
  unfold rdF at h
  split at h
  · rename_i g'
    simp only [Option.some.injEq, Prod.mk.injEq, DataW.lit.injEq, Lit.int.injEq, true_and] at h
    have : g' = g := by omega
    rw [this]
  · simp at h
  · cases h
theorem rdF_nil {v : Value} {ps : List MemPlace} (h : rdF v = some (.nil, ps)) : v = .pointer none := by
  unfold rdF at h
  split at h
  · simp at h
  · rfl
  · cases h

/-- a file in memory -/
structure Fw (w : World) (B : Nat) (v : Lv) : Prop where
  hd : w.heap[v.g]? = some (.cells #[v.bv, .int .i64 (v.safe.size : Int)] 65 (0, 0))
  row : w.ownsRow B 5 1 v.bv v.all.size (strCells v.all)
  low : B ≤ v.g
theorem Fw.c0 {w : World} {B : Nat} {v : Lv} (h : Fw w B v) : w.cell? ⟨v.g, 0, none⟩ = some v.bv := by simp [World.cell?, h.hd]
theorem Fw.c1 {w : World} {B : Nat} {v : Lv} (h : Fw w B v) : w.cell? ⟨v.g, 1, none⟩ = some (.int .i64 (v.safe.size : Int)) := by simp [World.cell?, h.hd]
theorem Fw.fro {w : World} {B : Nat} {v : Lv} (h : Fw w B v) (j : Nat) : w.frozen? ⟨v.g, j, none⟩ = false := by simp [World.frozen?, h.hd]
theorem Fw.lt {w : World} {B : Nat} {v : Lv} (h : Fw w B v) : v.g < w.heap.size := (Array.getElem?_eq_some_iff.1 h.hd).1
theorem row_lt {w : World} {base : Nat} {e : TypeId} {size : Nat} {v : Value} {n : Nat} {xs : List Value} (h : w.ownsRow base e size v n xs) {x : Nat} (hx : v.ownBlock = some x) : x < w.heap.size := by
  obtain ⟨_, cur, hc⟩ := row_obj h hx
  exact (Array.getElem?_eq_some_iff.1 hc).1
/-- what a file takes of memory -/
def Lv.at (v : Lv) (x : Nat) : Prop := x = v.g ∨ v.bv.ownBlock = some x
theorem Fw.ch {w w' : World} {B : Nat} {v : Lv} {X : Nat → Prop} (h : Fw w B v) (hc : Ch X w w') (hX : ∀ x, v.at x → ¬ X x) : Fw w' B v :=
  ⟨hc.obj h.hd (hX _ (.inl rfl)), hc.row h.row (fun k hk => hX k (.inr hk)), h.low⟩
theorem Fw.at_lt {w : World} {B : Nat} {v : Lv} (h : Fw w B v) {x : Nat} (hx : v.at x) : x < w.heap.size ∧ B ≤ x := by
  rcases hx with rfl | hx
  · exact ⟨h.lt, h.low⟩
  · exact ⟨row_lt h.row hx, (row_obj h.row hx).1⟩
/-- what kind of block each is -/
theorem Fw.kind {w : World} {B : Nat} {v : Lv} (h : Fw w B v) {x : Nat} (hx : v.at x) : ∃ cur t, w.heap[x]? = some (.cells cur t (0, 0)) ∧ (t = 65 ∨ t = 5) := by
  rcases hx with rfl | hx
  · exact ⟨_, _, h.hd, .inl rfl⟩
  · obtain ⟨_, cur, hc⟩ := row_obj h.row hx
    exact ⟨_, _, hc, .inr rfl⟩

/-- two files share no memory -/
def Apart (a b : Lv) : Prop := a.g ≠ b.g ∧ ∀ x, a.bv.ownBlock = some x → b.bv.ownBlock ≠ some x
/-- the disk in block d -/
structure Ld (w : World) (B d : Nat) (es : List Le) (p : Int) (off : Bool) (mo : Option Nat) : Prop where
  hd : w.heap[d]? = some (.cells #[.map mo, .bool (decide (0 ≤ p)), .int .i64 (max p 0), .bool off] 60 (0, 0))
  mp : ∀ mb, mo = some mb → w.ownsMap Try.prog 9 rdF mb es.length (.map (ents dg es))
  mn : mo = none → es = []
  fw : ∀ e ∈ es, Fw w B e.2
  apart : ∀ a ∈ es, ∀ b ∈ es, a.1 ≠ b.1 → Apart a.2 b.2
  rise : Rise es
  low : B ≤ d ∧ ∀ mb, mo = some mb → B ≤ mb
  few : es.length ≤ 256
  small : ∀ e ∈ es, e.1.size ≤ 32 ∧ e.2.all.size ≤ 1048576
  pw : -1 ≤ p ∧ p ≤ 9223372036854775807
/-- what the disk takes of memory -/
def foot (d : Nat) (mo : Option Nat) (es : List Le) (x : Nat) : Prop := x = d ∨ mo = some x ∨ ∃ e ∈ es, e.2.at x

variable {w w' : World} {B d : Nat} {es : List Le} {p : Int} {off : Bool} {mo : Option Nat}
theorem Ld.c0 (h : Ld w B d es p off mo) : w.cell? ⟨d, 0, none⟩ = some (.map mo) := by simp [World.cell?, h.hd]
theorem Ld.c1 (h : Ld w B d es p off mo) : w.cell? ⟨d, 1, none⟩ = some (.bool (decide (0 ≤ p))) := by simp [World.cell?, h.hd]
theorem Ld.c2 (h : Ld w B d es p off mo) : w.cell? ⟨d, 2, none⟩ = some (.int .i64 (max p 0)) := by simp [World.cell?, h.hd]
theorem Ld.c3 (h : Ld w B d es p off mo) : w.cell? ⟨d, 3, none⟩ = some (.bool off) := by simp [World.cell?, h.hd]
theorem Ld.fro (h : Ld w B d es p off mo) (j : Nat) : w.frozen? ⟨d, j, none⟩ = false := by simp [World.frozen?, h.hd]
theorem Ld.lt (h : Ld w B d es p off mo) : d < w.heap.size := (Array.getElem?_eq_some_iff.1 h.hd).1
theorem Ld.foot_lt (h : Ld w B d es p off mo) {x : Nat} (hx : foot d mo es x) : x < w.heap.size ∧ B ≤ x := by
  rcases hx with rfl | hx | ⟨e, he, hx⟩
  · exact ⟨h.lt, h.low.1⟩
  · exact ⟨(h.mp x hx).lt, h.low.2 x hx⟩
  · exact (h.fw e he).at_lt hx
theorem Ld.ch (h : Ld w B d es p off mo) {X : Nat → Prop} (hc : Ch X w w') (hX : ∀ x, foot d mo es x → ¬ X x) : Ld w' B d es p off mo where
  hd := hc.obj h.hd (hX _ (.inl rfl))
  mp mb e := by
    obtain ⟨es, clock, hb, r⟩ := h.mp mb e
    exact ⟨es, clock, hc.obj hb (hX mb (.inr (.inl e))), r⟩
  mn := h.mn
  fw e he := (h.fw e he).ch hc (fun x hx => hX x (.inr (.inr ⟨e, he, hx⟩)))
  apart := h.apart
  rise := h.rise
  low := h.low
  few := h.few
  small := h.small
  pw := h.pw
theorem Ld.below (h : Ld w B d es p off mo) (hb : Below w.heap.size w w') : Ld w' B d es p off mo :=
  h.ch (X := fun _ => False) (Ch.of_below hb) (fun _ _ => id)
/-- which kind each block is -/
theorem Ld.kind (h : Ld w B d es p off mo) {x : Nat} (hx : foot d mo es x) : (∃ a c, w.heap[x]? = some (.map a c)) ∨ ∃ cur t, w.heap[x]? = some (.cells cur t (0, 0)) ∧ (t = 60 ∨ t = 65 ∨ t = 5) := by
  rcases hx with rfl | hx | ⟨e, he, hx⟩
  · exact .inr ⟨_, _, h.hd, .inl rfl⟩
  · obtain ⟨a, c, hb, _⟩ := h.mp x hx
    exact .inl ⟨a, c, hb⟩
  · obtain ⟨cur, t, h1, h2⟩ := (h.fw e he).kind hx
    exact .inr ⟨cur, t, h1, .inr h2⟩
/-- the document's disk is no part of it -/
theorem Dk.ch {db base : Nat} {fs : List Fil} {q : Int} {o : Bool} {sv : Value} (h : Dk w db base fs q o sv) {X : Nat → Prop} (hc : Ch X w w') (hX : ∀ x, (x = db ∨ sv.ownBlock = some x) → ¬ X x) : Dk w' db base fs q o sv :=
  ⟨hc.obj h.hd (hX _ (.inl rfl)), hc.row h.row (fun k hk => hX k (.inr hk))⟩
theorem Ld.not_dk (h : Ld w B d es p off mo) {db base : Nat} {fs : List Fil} {q : Int} {o : Bool} {sv : Value} (hk : Dk w db base fs q o sv) {x : Nat} (hx : x = db ∨ sv.ownBlock = some x) : ¬ foot d mo es x := by
  intro hf
  have hd : ∃ cur t, w.heap[x]? = some (.cells cur t (0, 0)) ∧ (t = 37 ∨ t = 47) := by
    rcases hx with rfl | hx
    · exact ⟨_, _, hk.hd, .inl rfl⟩
    · obtain ⟨_, cur, hc⟩ := row_obj hk.row hx
      exact ⟨_, _, hc, .inr rfl⟩
  obtain ⟨cur, t, h1, h2⟩ := hd
  rcases h.kind hf with ⟨a, c, h3⟩ | ⟨cur', t', h3, h4⟩
  · rw [h1] at h3; cases h3
  · rw [h1] at h3
    injection h3 with h3
    injection h3 with _ h3
    subst h3
    rcases h2 with rfl | rfl <;> rcases h4 with h4 | h4 | h4 <;> cases h4

/-! ### the map -/
theorem strKey : Maps.Keyed Try.prog 9 := Maps.string_keyed Try.underlying9
theorem keyIs {k : ByteArray} (hk : k.size ≤ 9223372036854775807) : keyOf Try.prog 9 (.string k) = some (.string k.data.toList) := WideMaps.keyOf_string_mk Try.underlying9 (by unfold maxLen; exact hk)
theorem Ld.look (h : Ld w B d es p off mo) {k : ByteArray} {v : Lv} (hk : (k, v) ∈ es) :
    (Instr.lookup 58 (.map mo) (.string k) true).run Try.prog w = .ok (.tuple #[.pointer (some ⟨v.g, 0, none⟩), .bool true]) w := by
  cases mo with
  | none => rw [h.mn rfl] at hk; cases hk
  | some mb =>
    obtain ⟨u, ps, hrun, hR⟩ := (h.mp mb rfl).look_ok strKey Try.underlying58 (Try.zeroValue61 w) (zd := .nil) (zp := []) rfl (keyIs (k := k) (by have := (h.small _ hk).1; simp at this; omega))
    rw [ents_at dg h.rise hk] at hR
    rw [ents_has dg h.rise, mem_has h.rise hk, rdF_inv hR] at hrun
    exact hrun
theorem Ld.look_no (h : Ld w B d es p off mo) {k : ByteArray} (hz : k.size ≤ 9223372036854775807) (hk : has es k = false) :
    (Instr.lookup 58 (.map mo) (.string k) true).run Try.prog w = .ok (.tuple #[.pointer none, .bool false]) w := by
  cases mo with
  | none => exact Maps.look_nil true strKey Try.underlying58 (Try.zeroValue61 w) (keyIs hz)
  | some mb =>
    obtain ⟨u, ps, hrun, hR⟩ := (h.mp mb rfl).look_ok strKey Try.underlying58 (Try.zeroValue61 w) (zd := .nil) (zp := []) rfl (keyIs hz)
    rw [ents_no dg h.rise hk] at hR
    rw [ents_has dg h.rise, hk, rdF_nil hR] at hrun
    exact hrun
theorem Ld.look1 (h : Ld w B d es p off mo) {k : ByteArray} {v : Lv} (hk : (k, v) ∈ es) :
    (Instr.lookup 58 (.map mo) (.string k) false).run Try.prog w = .ok (.pointer (some ⟨v.g, 0, none⟩)) w := by
  cases mo with
  | none => rw [h.mn rfl] at hk; cases hk
  | some mb =>
    obtain ⟨u, ps, hrun, hR⟩ := (h.mp mb rfl).lookup strKey Try.underlying58 (Try.zeroValue61 w) (zd := .nil) (zp := []) rfl (keyIs (k := k) (by have := (h.small _ hk).1; simp at this; omega))
    rw [ents_at dg h.rise hk] at hR
    rw [rdF_inv hR] at hrun
    exact hrun
theorem Ld.len (h : Ld w B d es p off mo) (ty : TypeId) : (Builtin.len_ #[58] ty #[.map mo]).run Try.prog w = .ok (.int .i64 (es.length : Int)) w := by
  cases mo with
  | none => rw [h.mn rfl]; exact Maps.len_nil Try.underlying58 ty
  | some mb =>
    have := (h.mp mb rfl).len Try.underlying58 ty
    rw [Maps.size_eq, ents_len] at this
    exact this
/-- the bound of a map that is read is how many entries it has -/
theorem owns_tight {w : World} {b n : Nat} {l : List (Lit × DataW Unit)} (h : w.ownsMap Try.prog 9 rdF b n (.map l)) : w.ownsMap Try.prog 9 rdF b l.length (.map l) := by
  obtain ⟨es, clock, hb, F, hs, hD⟩ := h
  refine ⟨es, clock, hb, F, ?_, hD⟩
  injection hD with hD
  rw [hD, length_read]
  exact Nat.le_refl _

/-! ### what is written -/
theorem Ld.cells (h : Ld w B d es p off mo) (q : Int) (o : Bool) (hq : -1 ≤ q ∧ q ≤ 9223372036854775807) (hc : Ch (fun x => x = d) w w')
    (hd : w'.heap[d]? = some (.cells #[.map mo, .bool (decide (0 ≤ q)), .int .i64 (max q 0), .bool o] 60 (0, 0))) : Ld w' B d es q o mo where
  hd := hd
  mp mb e := by
    obtain ⟨es, clock, hb, r⟩ := h.mp mb e
    refine ⟨es, clock, hc.obj hb ?_, r⟩
    rintro rfl
    rw [h.hd] at hb; cases hb
  mn := h.mn
  fw e he := (h.fw e he).ch hc (fun x hx e1 => by
    subst e1
    obtain ⟨cur, t, h1, h2⟩ := (h.fw e he).kind hx
    rw [h.hd] at h1
    injection h1 with h1
    injection h1 with _ h1
    subst h1
    rcases h2 with h2 | h2 <;> cases h2)
  apart := h.apart
  rise := h.rise
  low := h.low
  few := h.few
  small := h.small
  pw := hq
/-- a file is changed: its block stays -/
theorem Ld.file (h : Ld w B d es p off mo) {k : ByteArray} {v v' : Lv} (hk : (k, v) ∈ es) (hc : Ch (fun x => v.at x) w w') (hf : Fw w' B v') (hg : v'.g = v.g)
    (hb : ∀ x, v'.bv.ownBlock = some x → v.bv.ownBlock = some x ∨ w.heap.size ≤ x) (hs : v'.all.size ≤ 1048576) : Ld w' B d (put es k v') p off mo := by
  have hents : ents dg (put es k v') = ents dg es := by
    have e1 : DataW.map (ents dg (put es k v')) = .map (ents dg (put es k v)) := by
      rw [← ents_put dg h.rise k v', ← ents_put dg h.rise k v]
      unfold dg
      rw [hg]
    injection e1 with e1
    rw [e1, put_same h.rise hk]
  have hlen : (put es k v').length = es.length := by rw [put_len, mem_has h.rise hk]; rfl
  have hkind : ∀ x, v.at x → ∃ cur t, w.heap[x]? = some (.cells cur t (0, 0)) ∧ (t = 65 ∨ t = 5) := fun x hx => (h.fw _ hk).kind hx
  have hother : ∀ e ∈ es, e.1 ≠ k → ∀ x, e.2.at x → ¬ v.at x := by
    intro e he hne x hx hv
    have ha := h.apart e he (k, v) hk hne
    rcases hx with rfl | hx <;> rcases hv with hv | hv
    · exact ha.1 hv
    · obtain ⟨_, cur, hcc⟩ := row_obj (h.fw _ hk).row hv
      rw [(h.fw e he).hd] at hcc; injection hcc with hcc; injection hcc with _ hcc; cases hcc
    · obtain ⟨_, cur, hcc⟩ := row_obj (h.fw e he).row hx
      rw [hv, (h.fw _ hk).hd] at hcc; injection hcc with hcc; injection hcc with _ hcc; cases hcc
    · exact ha.2 x hx hv
  refine ⟨hc.obj h.hd ?_, ?_, ?_, ?_, ?_, put_rise h.rise k v', h.low, by rw [hlen]; exact h.few, ?_, h.pw⟩
  · intro hx
    obtain ⟨cur, t, h1, h2⟩ := hkind d hx
    rw [h.hd] at h1
    injection h1 with h1
    injection h1 with _ h1
    subst h1
    rcases h2 with h2 | h2 <;> cases h2
  · intro mb e
    rw [hents, hlen]
    obtain ⟨es, clock, hb, r⟩ := h.mp mb e
    refine ⟨es, clock, hc.obj hb ?_, r⟩
    intro hx
    obtain ⟨cur, t, h1, h2⟩ := hkind mb hx
    rw [hb] at h1; cases h1
  · intro e
    rw [h.mn e] at hk; cases hk
  · intro e he
    rcases (mem_put h.rise k v' e).1 he with rfl | ⟨he, hne⟩
    · exact hf
    · exact (h.fw e he).ch hc (hother e he hne)
  · have hnew : ∀ e ∈ es, e.1 ≠ k → Apart e.2 v' := by
      intro e he hne
      refine ⟨by rw [hg]; exact (h.apart e he (k, v) hk hne).1, fun x hx hv => ?_⟩
      rcases hb x hv with h1 | h1
      · exact (h.apart e he (k, v) hk hne).2 x hx h1
      · have := row_lt (h.fw e he).row hx
        omega
    intro a ha b hb' hne
    rcases (mem_put h.rise k v' a).1 ha with rfl | ⟨ha, hna⟩ <;> rcases (mem_put h.rise k v' b).1 hb' with rfl | ⟨hb', hnb⟩
    · exact absurd rfl hne
    · have := hnew b hb' hnb
      exact ⟨fun e => this.1 e.symm, fun x hx hv => this.2 x hv hx⟩
    · exact hnew a ha hna
    · exact h.apart a ha b hb' hne
  · intro e he
    rcases (mem_put h.rise k v' e).1 he with rfl | ⟨he, hne⟩
    · exact ⟨(h.small _ hk).1, hs⟩
    · exact h.small e he
theorem foot_file {k : ByteArray} {v v' : Lv} {w : World} (hr : Rise es) (hk : (k, v) ∈ es) (hg : v'.g = v.g) (hb : ∀ x, v'.bv.ownBlock = some x → v.bv.ownBlock = some x ∨ w.heap.size ≤ x) {x : Nat} (hx : foot d mo (put es k v') x) : foot d mo es x ∨ w.heap.size ≤ x := by
  rcases hx with hx | hx | ⟨e, he, hx⟩
  · exact .inl (.inl hx)
  · exact .inl (.inr (.inl hx))
  · rcases (mem_put hr k v' e).1 he with rfl | ⟨he, hne⟩
    · rcases hx with hx | hx
      · exact .inl (.inr (.inr ⟨_, hk, .inl (hx.trans hg)⟩))
      · rcases hb x hx with h1 | h1
        · exact .inl (.inr (.inr ⟨_, hk, .inr h1⟩))
        · exact .inr h1
    · exact .inl (.inr (.inr ⟨e, he, hx⟩))
end Go.Proofs.Ytedcabnjcbdkaaa

/-
  A map, the document's, and a clone of the map beside.
-/
import Derived.Test.YtkohcdefhaokiaaSForget
namespace Go.Proofs.Ytkohcdefhaokiaa
open Go.RowKit Go.Shelf Go.Lib Go.Sort

/-- the map in mb and the document's in rb have the same; the map in nb has ns and shares nothing with the first -/
def Tw (w0 : World) (mb rb nb : Nat) (es ns : List Ent) (w : World) : Prop :=
  ∃ sv q kv vv svn qn, Jn w mb rb w0.heap.size es sv q 0 kv vv ∧ Mp w nb ns svn qn 0 ∧ Below w0.heap.size w0 w ∧ (∀ g, sv.ownBlock = some g → w0.heap.size ≤ g) ∧ (∀ g, svn.ownBlock = some g → w0.heap.size ≤ g) ∧ w0.heap.size ≤ mb ∧ w0.heap.size ≤ rb ∧ w0.heap.size ≤ nb ∧ nb ≠ mb ∧ ∀ g, svn.ownBlock = some g → sv.ownBlock ≠ some g

theorem Tw.below {w0 w w' : World} {mb rb nb : Nat} {es ns : List Ent} (h : Tw w0 mb rb nb es ns w) (hb : Below w.heap.size w w') : Tw w0 mb rb nb es ns w' := by
  obtain ⟨sv, q, kv, vv, svn, qn, hJ, hN, hB, hr⟩ := h
  exact ⟨sv, q, kv, vv, svn, qn, hJ.below hb, hN.below hb, hB.trans (hb.mono hB.size), hr⟩
theorem Tw.b {w0 w : World} {mb rb nb : Nat} {es ns : List Ent} (h : Tw w0 mb rb nb es ns w) : Below w0.heap.size w0 w := by
  obtain ⟨sv, q, kv, vv, svn, qn, hJ, hN, hB, hr⟩ := h
  exact hB

/-- a map stays while another one is turned -/
theorem Mp.other {w w' : World} {mb nb c cn : Nat} {es ns : List Ent} {sv svn : Value} {q qn : Option Nat} (hM : Mp w mb es sv q c) (hN : Mp w nb ns svn qn cn) (hne : nb ≠ mb) (hd : ∀ g, svn.ownBlock = some g → sv.ownBlock ≠ some g) (hc : Ch (fun b => b = mb ∨ (c = 0 ∧ sv.ownBlock = some b)) w w') : Mp w' nb ns svn qn cn := by
  have qb : ∀ b, qn = some b → w.heap[b]? = some (.cells #[.int .i64 cn] 3 (0, 0)) := by
    rintro b rfl
    rcases hN.lent with ⟨h0, _⟩ | ⟨b', e, hb⟩
    · cases h0
    · cases e; exact hb
  refine hN.ch hc ?_ ?_ ?_
  · rintro (e | ⟨_, e⟩)
    · exact hne e
    · obtain ⟨_, cur, hx⟩ := row_obj hM.row e
      rw [hN.hd] at hx; injection hx with x; injection x with _ x; cases x
  · rintro g hg (e | ⟨_, e⟩)
    · obtain ⟨_, cur, hx⟩ := row_obj hN.row hg
      rw [e, hM.hd] at hx; injection hx with x; injection x with _ x; cases x
    · exact hd g hg e
  · rintro b hb (e | ⟨_, e⟩)
    · have hx := qb b hb
      rw [e, hM.hd] at hx; injection hx with x; injection x with _ x; cases x
    · obtain ⟨_, cur, hx⟩ := row_obj hM.row e
      rw [qb b hb] at hx; injection hx with x; injection x with _ x; cases x

theorem clone_tw {w0 w : World} {mb rb : Nat} {es : List Ent} (h : Pl w0 mb rb es w) (hn : es.length ≤ 8796093021999) :
    Calls Try.prog 17 #[.pointer (some ⟨mb, 0, none⟩)] w fun e w' => ∃ nb, e = .returned (.pointer (some ⟨nb, 0, none⟩)) ∧ Tw w0 mb rb nb es es w' ∧ KVk w w' := by
  obtain ⟨sv, q, kv, vv, hJ, hB, hsv, hm, hr⟩ := h
  refine (Clone_any hJ.m (by omega)).mono ?_
  rintro e w' ⟨nb, svn, rfl, hnb, hN, hfr, hb⟩
  have hlt := hJ.m.lt
  have hs := hB.size
  refine ⟨nb, rfl, ⟨sv, q, kv, vv, svn, none, hJ.below hb, hN, hB.trans (hb.mono hB.size), hsv, fun g e => Nat.le_trans hs (hfr g e), hm, hr, Nat.le_trans hs hnb, by omega, fun g e e' => ?_⟩, KVk.below hb⟩
  have h1 := hfr g e
  have h2 := hJ.m.own_lt e'
  omega

/-- ranged over the clone -/
theorem rangedN {w0 w : World} {mb rb nb : Nat} {es ns : List Ent} (h : Tw w0 mb rb nb es ns w) (kind : Int) (k : ByteArray) (m : Int) (hn : ns.length ≤ 8796093021999) :
    Calls Try.prog 13 #[.pointer (some ⟨nb, 0, none⟩), .int .i64 kind, .string k, .int .i64 m] w fun e w' => ∃ kv vv, e = .returned (.tuple #[kv, vv]) ∧ KV w' w0.heap.size kv vv (most m (pick kind k ns)) ∧ Tw w0 mb rb nb es ns w' ∧ KVk w w' := by
  obtain ⟨sv, q, kv, vv, svn, qn, hJ, hN, hB, h1, h2, h3, h4, h5, h6, h7⟩ := h
  refine (ranged_any hN (by decide) (by omega) kind k m).mono ?_
  rintro e w' ⟨kv', vv', q', rfl, hK, hM, hC, hq⟩
  have hC' : Ch (fun b => b = nb ∨ ((0 : Nat) = 0 ∧ svn.ownBlock = some b)) w w' := hC.mono' (fun b e => .inl e)
  exact ⟨kv', vv', rfl, ⟨row_low hK.1 hB.size, row_low hK.2 hB.size⟩, ⟨sv, q, kv, vv, svn, q', ⟨hN.other hJ.m h6.symm (fun g e e' => h7 g e' e) hC', hJ.r.turn hN hC', hJ.sh⟩, hM, hB.trans (hC.below hB.size (fun k hk e => by omega)), h1, h2, h3, h4, h5, h6, h7⟩, fun b kv vv l h => h.chm hN hC⟩
/-- ranged over the map -/
theorem rangedM {w0 w : World} {mb rb nb : Nat} {es ns : List Ent} (h : Tw w0 mb rb nb es ns w) (kind : Int) (k : ByteArray) (m : Int) (hn : es.length ≤ 8796093021999) :
    Calls Try.prog 13 #[.pointer (some ⟨mb, 0, none⟩), .int .i64 kind, .string k, .int .i64 m] w fun e w' => ∃ kv vv, e = .returned (.tuple #[kv, vv]) ∧ KV w' w0.heap.size kv vv (most m (pick kind k es)) ∧ Below w0.heap.size w0 w' ∧ KVk w w' := by
  obtain ⟨sv, q, kv, vv, svn, qn, hJ, hN, hB, h1, h2, h3, h4, h5, h6, h7⟩ := h
  refine (ranged_any hJ.m (by decide) (by omega) kind k m).mono ?_
  rintro e w' ⟨kv', vv', q', rfl, hK, hM, hC, hq⟩
  exact ⟨kv', vv', rfl, ⟨row_low hK.1 hB.size, row_low hK.2 hB.size⟩, hB.trans (hC.below hB.size (fun k hk e => by omega)), fun b kv vv l h => h.chm hJ.m hC⟩

theorem KV.xd {w w' : World} {b mb rb base : Nat} {kv vv kr vr : Value} {l es es' : List Ent} {sv : Value} {q : Option Nat} {c : Nat} (h : KV w b kv vv l) (hM : Mp w mb es sv q c) (hR : Rf w rb base es' kr vr) (hc : Ch (Xd mb rb c sv) w w') : KV w' b kv vv l := by
  refine ⟨hc.row h.1 ?_, hc.row h.2 ?_⟩
  · rintro g hg (rfl | rfl | ⟨_, e⟩)
    · obtain ⟨_, cur, hx⟩ := row_obj h.1 hg
      rw [hR.hd] at hx; injection hx with x; injection x with _ x; cases x
    · obtain ⟨_, cur, hx⟩ := row_obj h.1 hg
      rw [hM.hd] at hx; injection hx with x; injection x with _ x; cases x
    · exact row_ne hM.row h.1 (by decide) e hg rfl
  · rintro g hg (rfl | rfl | ⟨_, e⟩)
    · obtain ⟨_, cur, hx⟩ := row_obj h.2 hg
      rw [hR.hd] at hx; injection hx with x; injection x with _ x; cases x
    · obtain ⟨_, cur, hx⟩ := row_obj h.2 hg
      rw [hM.hd] at hx; injection hx with x; injection x with _ x; cases x
    · exact row_ne hM.row h.2 (by decide) e hg rfl

theorem does_tw {w0 w : World} {mb rb nb : Nat} {es ns : List Ent} (h : Tw w0 mb rb nb es ns w) (kind : Int) (k : ByteArray) (v : Int) (hk : k.size < 4611686018427387904) (hn : es.length ≤ 8796093021999) :
    Calls Try.prog 11 #[.pointer (some ⟨mb, 0, none⟩), .pointer (some ⟨rb, 0, none⟩), .agg #[.int .i64 kind, .string k, .int .i64 v]] w fun e w' => e = .returned (.bool true) ∧ Tw w0 mb rb nb (act kind k v es) ns w' ∧ KVk w w' := by
  obtain ⟨sv, q, kv, vv, svn, qn, hJ, hN, hB, h1, h2, h3, h4, h5, h6, h7⟩ := h
  refine (does_any hJ (by decide) kind k v hk (by omega) hB.size).mono ?_
  rintro e w' ⟨rfl, sv', q', c', kv', vv', hJ', hC, hT, -⟩
  have hc : c' = 0 := by rcases hT with ⟨_, _, h⟩ | ⟨h, _⟩ <;> exact h
  subst hc
  have hnr := hN.rf hJ.r
  have hN' : Mp w' nb ns svn qn 0 := by
    have qb : ∀ b, qn = some b → w.heap[b]? = some (.cells #[.int .i64 ((0 : Nat) : Int)] 3 (0, 0)) := by
      rintro b rfl
      rcases hN.lent with ⟨h0, _⟩ | ⟨b', e, hb⟩
      · cases h0
      · cases e; exact hb
    refine hN.ch hC ?_ ?_ ?_
    · rintro (e | e | ⟨_, e⟩)
      · exact hnr.1 e
      · exact h6 e
      · obtain ⟨_, cur, hx⟩ := row_obj hJ.m.row e
        rw [hN.hd] at hx; injection hx with x; injection x with _ x; cases x
    · rintro g hg (e | e | ⟨_, e⟩)
      · exact hnr.2.1 g hg e
      · obtain ⟨_, cur, hx⟩ := row_obj hN.row hg
        rw [e, hJ.m.hd] at hx; injection hx with x; injection x with _ x; cases x
      · exact h7 g hg e
    · rintro b hb (e | e | ⟨_, e⟩)
      · exact hnr.2.2 b hb e
      · have hx := qb b hb
        rw [e, hJ.m.hd] at hx; injection hx with x; injection x with _ x; cases x
      · obtain ⟨_, cur, hx⟩ := row_obj hJ.m.row e
        rw [qb b hb] at hx; injection hx with x; injection x with _ x; cases x
  refine ⟨rfl, ⟨sv', q', kv', vv', svn, qn, hJ', hN', hB.trans (hC.below hB.size ?_), ?_, h2, h3, h4, h5, h6, ?_⟩, fun b kv vv l h => h.xd hJ.m hJ.r hC⟩
  · rintro k hk (rfl | rfl | ⟨_, e⟩)
    · omega
    · omega
    · have := h1 k e; omega
  · intro g hg
    rcases hT with ⟨rfl, _⟩ | ⟨_, t2, _⟩
    · exact h1 g hg
    · rcases t2 g hg with ⟨_, e⟩ | h
      · exact h1 g e
      · have := hB.size; omega
  · intro g hg hg'
    rcases hT with ⟨rfl, _⟩ | ⟨_, t2, _⟩
    · exact h7 g hg hg'
    · rcases t2 g hg' with ⟨_, e⟩ | h
      · exact h7 g hg e
      · have := hN.own_lt hg; omega

/-- the clone is turned: the map stays -/
theorem Tw.turnN {w0 w w' : World} {mb rb nb : Nat} {es ns ns' : List Ent} {sv kv vv svn svn' : Value} {q qn qn' : Option Nat} {c' : Nat} (hJ : Jn w mb rb w0.heap.size es sv q 0 kv vv) (hN : Mp w nb ns svn qn 0) (hB : Below w0.heap.size w0 w) (h1 : ∀ g, sv.ownBlock = some g → w0.heap.size ≤ g) (h2 : ∀ g, svn.ownBlock = some g → w0.heap.size ≤ g) (h3 : w0.heap.size ≤ mb) (h4 : w0.heap.size ≤ rb) (h5 : w0.heap.size ≤ nb) (h6 : nb ≠ mb) (h7 : ∀ g, svn.ownBlock = some g → sv.ownBlock ≠ some g)
    (hN' : Mp w' nb ns' svn' qn' c') (hT : Turn nb w svn qn 0 w' svn' qn' c') : Tw w0 mb rb nb es ns' w' ∧ KVk w w' := by
  have hc : c' = 0 := by rcases hT.2 with ⟨_, _, h⟩ | ⟨h, _⟩ <;> exact h
  subst hc
  refine ⟨⟨sv, q, kv, vv, svn', qn', ⟨hN.other hJ.m h6.symm (fun g e e' => h7 g e' e) hT.1, hJ.r.turn hN hT.1, hJ.sh⟩, hN', hB.trans (hT.1.below hB.size ?_), h1, ?_, h3, h4, h5, h6, ?_⟩, fun b kv vv l h => h.turn hN hT.1⟩
  · rintro k hk (rfl | ⟨_, e⟩)
    · omega
    · have := h2 k e; omega
  · intro g hg
    rcases hT.2 with ⟨rfl, _⟩ | ⟨_, t2, _⟩
    · exact h2 g hg
    · rcases t2 g hg with ⟨_, e⟩ | h
      · exact h2 g e
      · have := hB.size; omega
  · intro g hg hg'
    rcases hT.2 with ⟨rfl, _⟩ | ⟨_, t2, _⟩
    · exact h7 g hg hg'
    · rcases t2 g hg with ⟨_, e⟩ | h
      · exact h7 g e hg'
      · have := hJ.m.own_lt hg'; omega
theorem putN {w0 w : World} {mb rb nb : Nat} {es ns : List Ent} (h : Tw w0 mb rb nb es ns w) (k : ByteArray) (v : Int) (hn : ns.length ≤ 8796093021999) :
    Calls Try.prog 18 #[.pointer (some ⟨nb, 0, none⟩), .string k, .int .i64 v] w fun e w' => e = .returned (.tuple #[.int .i64 (val ns k), .bool (has ns k)]) ∧ Tw w0 mb rb nb es (put ns k v) w' ∧ KVk w w' := by
  obtain ⟨sv, q, kv, vv, svn, qn, hJ, hN, hB, h1, h2, h3, h4, h5, h6, h7⟩ := h
  refine (Put_any hN k v (by omega)).mono ?_
  rintro e w' ⟨rfl, sv', q', hM', hT⟩
  exact ⟨rfl, Tw.turnN hJ hN hB h1 h2 h3 h4 h5 h6 h7 hM' hT⟩
theorem delN {w0 w : World} {mb rb nb : Nat} {es ns : List Ent} (h : Tw w0 mb rb nb es ns w) (k : ByteArray) (hn : ns.length ≤ 8796093022000) :
    Calls Try.prog 19 #[.pointer (some ⟨nb, 0, none⟩), .string k] w fun e w' => e = .returned (.tuple #[.int .i64 (val ns k), .bool (has ns k)]) ∧ Tw w0 mb rb nb es (del ns k) w' ∧ KVk w w' := by
  obtain ⟨sv, q, kv, vv, svn, qn, hJ, hN, hB, h1, h2, h3, h4, h5, h6, h7⟩ := h
  refine (Del_any hN k (by omega)).mono ?_
  rintro e w' ⟨rfl, sv', q', c', hM', hT⟩
  exact ⟨rfl, Tw.turnN hJ hN hB h1 h2 h3 h4 h5 h6 h7 hM' hT⟩

/-- the document's Range of all, beside the clone, and ahead of it -/
theorem rAll_tw {w0 w : World} {mb rb nb : Nat} {es ns : List Ent} (h : Tw w0 mb rb nb es ns w) (k : ByteArray) (hk : k.size < 4611686018427387904) (hn : es.length ≤ 8796093021999) :
    Calls Try.prog 15 #[.pointer (some ⟨rb, 0, none⟩), .int .i64 1, .string k] w fun e w' => ∃ kv vv, e = .returned (.tuple #[kv, vv]) ∧ KV w' w0.heap.size kv vv es ∧ Tw w0 mb rb nb es ns w' ∧ KVk w w' := by
  have h0 := h
  obtain ⟨sv, q, kv, vv, svn, qn, hJ, hN, hB, -⟩ := h
  refine (rRange_any hJ.r hJ.m.rise hJ.sh 1 (.inl rfl) k hk (by omega)).mono ?_
  rintro e w' ⟨kv', vv', rfl, hK, hb⟩
  have e4 : pick (1 + 3) k es = es := pick_all k es
  rw [e4] at hK
  exact ⟨kv', vv', rfl, ⟨row_low hK.1 hB.size, row_low hK.2 hB.size⟩, h0.below hb, KVk.below hb⟩
theorem rAll_pl {w0 w : World} {mb rb : Nat} {es : List Ent} (h : Pl w0 mb rb es w) (k : ByteArray) (hk : k.size < 4611686018427387904) (hn : es.length ≤ 8796093021999) :
    Calls Try.prog 15 #[.pointer (some ⟨rb, 0, none⟩), .int .i64 1, .string k] w fun e w' => ∃ kv vv, e = .returned (.tuple #[kv, vv]) ∧ KV w' w0.heap.size kv vv es ∧ Pl w0 mb rb es w' := by
  have h0 := h
  obtain ⟨sv, q, kv, vv, hJ, hB, -⟩ := h
  refine (rRange_any hJ.r hJ.m.rise hJ.sh 1 (.inl rfl) k hk (by omega)).mono ?_
  rintro e w' ⟨kv', vv', rfl, hK, hb⟩
  have e4 : pick (1 + 3) k es = es := pick_all k es
  rw [e4] at hK
  exact ⟨kv', vv', rfl, ⟨row_low hK.1 hB.size, row_low hK.2 hB.size⟩, h0.below hb⟩
end Go.Proofs.Ytkohcdefhaokiaa

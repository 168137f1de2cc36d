/-
  A map and the document's, while acts are done.
-/
import Derived.Test.YtkohcdefhaokiabSDoes
import Derived.Test.YtkohcdefhaokiabSActs
namespace Go.Proofs.Ytkohcdefhaokiab
open Go.RowKit Go.Shelf Go.Lib Go.Sort

/-- the map in mb and the document's in rb have the same; nothing that was there in w0 is touched -/
def Pl (w0 : World) (mb rb : Nat) (es : List Ent) (w : World) : Prop :=
  ∃ sv q kv vv, Jn w mb rb w0.heap.size es sv q 0 kv vv ∧ Below w0.heap.size w0 w ∧ (∀ g, sv.ownBlock = some g → w0.heap.size ≤ g) ∧ w0.heap.size ≤ mb ∧ w0.heap.size ≤ rb

theorem act_len (kind : Int) (k : ByteArray) (v : Int) (es : List Ent) : (act kind k v es).length ≤ es.length + 1 := by
  unfold act
  split
  · have := put_len es k v; split at this <;> omega
  · split
    · have := del_le es k; omega
    · omega

theorem Pl.next {w0 w w' : World} {mb rb : Nat} {es' : List Ent} {sv : Value} {q : Option Nat} (hB : Below w0.heap.size w0 w) (hsv : ∀ g, sv.ownBlock = some g → w0.heap.size ≤ g) (hm : w0.heap.size ≤ mb) (hr : w0.heap.size ≤ rb) {kv vv : Value} (h : DEnd w mb rb w0.heap.size es' sv q 0 kv vv w') : Pl w0 mb rb es' w' := by
  obtain ⟨sv', q', c', kv', vv', hJ, hC, hT, -⟩ := h
  have hc : c' = 0 := by rcases hT with ⟨_, _, h⟩ | ⟨h, _⟩ <;> exact h
  subst hc
  refine ⟨sv', q', kv', vv', hJ, hB.trans (hC.below hB.size ?_), ?_, hm, hr⟩
  · rintro k hk (rfl | rfl | ⟨_, e⟩)
    · omega
    · omega
    · have := hsv k e; omega
  · intro g hg
    rcases hT with ⟨rfl, _⟩ | ⟨_, h2, _⟩
    · exact hsv g hg
    · rcases h2 g hg with ⟨_, e⟩ | h
      · exact hsv g e
      · have := hB.size; omega

theorem does_pl {w0 w : World} {mb rb : Nat} {es : List Ent} (h : Pl w0 mb rb es w) (kind : Int) (k : ByteArray) (v : Int) (hk : k.size < 4611686018427387904) (hn : es.length ≤ 8796093021999) :
    Calls Try.prog 6 #[.pointer (some ⟨mb, 0, none⟩), .pointer (some ⟨rb, 0, none⟩), .agg #[.int .i64 kind, .string k, .int .i64 v]] w fun e w' => e = .returned (.bool true) ∧ Pl w0 mb rb (act kind k v es) w' := by
  obtain ⟨sv, q, kv, vv, hJ, hB, hsv, hm, hr⟩ := h
  exact (does_any hJ (by decide) kind k v (by omega) (by omega) hB.size).mono (fun e w' ⟨h1, h2⟩ => ⟨h1, Pl.next hB hsv hm hr h2⟩)

theorem KV.chm {w w' : World} {b mb : Nat} {kv vv : Value} {l es : List Ent} {sv : Value} {q : Option Nat} {c : Nat} (h : KV w b kv vv l) (hM : Mp w mb es sv q c) (hc : Ch (fun b => b = mb) w w') : KV w' b kv vv l := by
  refine ⟨hc.row h.1 ?_, hc.row h.2 ?_⟩
  · rintro g hg rfl
    obtain ⟨_, cur, hx⟩ := row_obj h.1 hg
    rw [hM.hd] at hx; injection hx with x; injection x with _ x; cases x
  · rintro g hg rfl
    obtain ⟨_, cur, hx⟩ := row_obj h.2 hg
    rw [hM.hd] at hx; injection hx with x; injection x with _ x; cases x

/-- ranged, while acts are done: what was told before stays -/
theorem ranged_pl {w0 w : World} {mb rb : Nat} {es : List Ent} (h : Pl w0 mb rb es w) (kind : Int) (k : ByteArray) (m : Int) (hn : es.length ≤ 8796093021999) :
    Calls Try.prog 7 #[.pointer (some ⟨mb, 0, none⟩), .int .i64 kind, .string k, .int .i64 m] w fun e w' => ∃ kv vv, e = .returned (.tuple #[kv, vv]) ∧ KV w' w0.heap.size kv vv (most m (pick kind k es)) ∧ Pl w0 mb rb es w' ∧ (∀ b kv vv l, KV w b kv vv l → KV w' b kv vv l) ∧ Ch (fun b => b = mb) w w' := by
  obtain ⟨sv, q, kv, vv, hJ, hB, hsv, hm, hr⟩ := h
  refine (ranged_any hJ.m (by decide) (by omega) kind k m).mono ?_
  rintro e w' ⟨kv', vv', q', rfl, hK, hM, hC, hq⟩
  refine ⟨kv', vv', rfl, ⟨row_low hK.1 hB.size, row_low hK.2 hB.size⟩, ⟨sv, q', kv, vv, ⟨hM, hJ.r.turn hJ.m (hC.mono (fun b _ e => .inl e)), hJ.sh⟩, hB.trans (hC.below hB.size (fun k hk e => by omega)), hsv, hm, hr⟩, fun b kv vv l h => h.chm hJ.m hC, hC⟩

theorem pick_all (k : ByteArray) (es : List Ent) : pick 4 k es = es := by simp [pick]
theorem most_all (l : List Ent) : most (-1) l = l := by simp [most]

/-- where both begin -/
theorem Pl.start {w0 w2 : World} {mb : Nat} (hM : Mp w2 mb [] (.slice none 0 0) none 0) (hB : Below w0.heap.size w0 w2) (hm : w0.heap.size ≤ mb) : Pl w0 mb w2.heap.size [] (w2.alloc (.cells #[.slice none 0 0, .slice none 0 0] 30)) :=
  ⟨.slice none 0 0, none, .slice none 0 0, .slice none 0 0, ⟨hM.below ((Below.refl _ w2).alloc (Nat.le_refl _) _), ⟨heap_alloc_new w2 _, rfl, World.ownsRow_nil _ _ _ _, World.ownsRow_nil _ _ _ _⟩, fun e he => (by cases he)⟩, hB.alloc hB.size _, fun g hg => (by cases hg), hm, hB.size⟩
theorem mp_drew {w : World} {mb : Nat} {es : List Ent} {sv : Value} {q : Option Nat} {c : Nat} (h : Mp w mb es sv q c) : Mp w.drew mb es sv q c := ⟨h.hd, h.row, h.rise, h.lent⟩
theorem rf_drew {w : World} {rb base : Nat} {es : List Ent} {kv vv : Value} (h : Rf w rb base es kv vv) : Rf w.drew rb base es kv vv := ⟨h.hd, h.al, h.kv⟩
theorem kv_drew {w : World} {b : Nat} {kv vv : Value} {l : List Ent} (h : KV w b kv vv l) : KV w.drew b kv vv l := h
theorem jn_drew {w : World} {mb rb base : Nat} {es : List Ent} {sv : Value} {q : Option Nat} {c : Nat} {kv vv : Value} (h : Jn w mb rb base es sv q c kv vv) : Jn w.drew mb rb base es sv q c kv vv := ⟨mp_drew h.m, rf_drew h.r, h.sh⟩
theorem pl_drew {w0 w : World} {mb rb : Nat} {es : List Ent} (h : Pl w0 mb rb es w) : Pl w0 mb rb es w.drew := by
  obtain ⟨sv, q, kv, vv, hJ, hB, hr⟩ := h
  exact ⟨sv, q, kv, vv, jn_drew hJ, hB.drew, hr⟩
theorem Pl.below {w0 w w' : World} {mb rb : Nat} {es : List Ent} (h : Pl w0 mb rb es w) (hb : Below w.heap.size w w') : Pl w0 mb rb es w' := by
  obtain ⟨sv, q, kv, vv, hJ, hB, hr⟩ := h
  exact ⟨sv, q, kv, vv, hJ.below hb, hB.trans (hb.mono hB.size), hr⟩
theorem Pl.b {w0 w : World} {mb rb : Nat} {es : List Ent} (h : Pl w0 mb rb es w) : Below w0.heap.size w0 w := by
  obtain ⟨sv, q, kv, vv, hJ, hB, hr⟩ := h
  exact hB
end Go.Proofs.Ytkohcdefhaokiab

/-
  'for k, v := range m.All() { .. }' and its kin, for whatever body: the rounds are told what the range picks of the map, and behind it the map's count is what it was.
-/
import Derived.Test.YtkohcdefhaokiaaSOne
import Derived.Test.YtkohcdefhaokiaaSUnder
namespace Go.Proofs.Ytkohcdefhaokiaa
open Go.RowKit Go.Shelf Go.Lib Go.Sort

/-- what a range picks -/
def Pk (w : World) (pv : Value) (pk : List Ent → List Ent) : Prop :=
  (pv = .func (.func 35) #[] #[] ∧ pk = id) ∨
  (pv = .func (.func 49) #[] #[] ∧ pk = List.reverse) ∨
  (∃ kb k, pv = .func (.func 34) #[] #[.pointer (some ⟨kb, 0, none⟩)] ∧ Bx w kb (.string k) 9 ∧ pk = fun es => es.drop (pos es k)) ∨
  (∃ kb k, pv = .func (.func 50) #[] #[.pointer (some ⟨kb, 0, none⟩)] ∧ Bx w kb (.string k) 9 ∧ pk = fun es => under es k)

theorem Mp.notBx {w : World} {mb : Nat} {es : List Ent} {sv : Value} {q : Option Nat} {c : Nat} (h : Mp w mb es sv q c) {b : Nat} {v : Value} {t : TypeId} (hb : Bx w b v t) (h3 : t ≠ 3) : b ≠ mb ∧ q ≠ some b := by
  refine ⟨fun e => ?_, fun e => ?_⟩
  · have e1 : w.heap[b]? = _ := hb
    rw [e, h.hd] at e1
    injection e1 with e1
    injection e1 with e2 e3
    cases e2
  · rcases h.lent with ⟨h0, _⟩ | ⟨b', eb, hb'⟩
    · rw [h0] at e; cases e
    · rw [eb] at e
      cases e
      have e1 : w.heap[b]? = _ := hb
      rw [hb'] at e1
      injection e1 with e1
      injection e1 with e2 e3
      exact h3 e3.symm

theorem pick_any {w : World} {pv : Value} {pk : List Ent → List Ent} {mb cb : Nat} {es : List Ent} {sv : Value} {q : Option Nat} {c : Nat} (hP : Pk w pv pk) (hM : Mp w mb es sv q c) (hcb : ∀ g, sv.ownBlock = some g → g = cb) (hn : es.length < 4611686018427387904) :
    ∃ pf pc, pv = .func (.func pf) #[] pc ∧ (∀ args w, (callFunc pf args).run Try.prog w = .ok (.enter pf args) w) ∧
      ∀ W, Ch (fun b => b = mb ∨ q = some b) w W → W.ownsRow 0 69 2 sv es.length (flat es) → Calls Try.prog pf (#[sv] ++ pc) W fun e W' => ∃ itv, e = .returned itv ∧ Itv W' W.heap.size cb itv (pk es) ∧ Below W.heap.size W W' := by
  rcases hP with ⟨rfl, rfl⟩ | ⟨rfl, rfl⟩ | ⟨kb, k, rfl, hk, rfl⟩ | ⟨kb, k, rfl, hk, rfl⟩
  · exact ⟨_, _, rfl, enters_of Try.func35 (by kernel_rfl) rfl, fun W _ hr => pickAll (sl_of_row hr hcb hn)⟩
  · exact ⟨_, _, rfl, enters_of Try.func49 (by kernel_rfl) rfl, fun W _ hr => pickBack (sl_of_row hr hcb hn)⟩
  · exact ⟨_, _, rfl, enters_of Try.func34 (by kernel_rfl) rfl, fun W hc hr => pickFrom hr hM.rise hcb hn (hk.ch hc (fun h => h.elim (hM.notBx hk (by decide)).1 (hM.notBx hk (by decide)).2))⟩
  · exact ⟨_, _, rfl, enters_of Try.func50 (by kernel_rfl) rfl, fun W hc hr => pickUnder hr hM.rise hcb hn (hk.ch hc (fun h => h.elim (hM.notBx hk (by decide)).1 (hM.notBx hk (by decide)).2))⟩

/-- what a round of a range over a map is told -/
def encm (x : Ent) : Array Value := #[.string x.1, .int .i64 x.2]

theorem range_map {g : Operand} {ps : Array Tmp} {assign body : Code} {Q : Exit → Act → World → Prop} {a : Act} {w : World} {n n₀ : Nat} {f pv : Value} {pk : List Ent → List Ent} {mb cb : Nat} {es : List Ent} {sv : Value} {q : Option Nat} {c : Nat}
    (hg : a.eval g = f) (hR : Rg w n₀ f (some ⟨mb, 0, none⟩) pv) (hP : Pk w pv pk) (hM : Mp w mb es sv q c) (hcb : ∀ g, sv.ownBlock = some g → g = cb) (hn : es.length < 4611686018427387904) (hc : c < 4611686018427387904) (hps : 2 = ps.size)
    (I : Nat × Nat → List Ent → World → Prop) (Ix : Nat × Nat → Code → List Ent → World → Prop) (E : World → Prop) (Ex : Code → World → Prop) (A : Nat × Nat → List Ent → Ent → Act → World → Prop)
    (hI : ∀ s, OwnFrom w.heap.size (I s)) (hIx : ∀ s c, OwnFrom w.heap.size (Ix s c)) (hE : OwnFrom w.heap.size (fun (_ : Unit) W => E W)) (hEx : ∀ c, OwnFrom w.heap.size (fun (_ : Unit) W => Ex c W)) (hA : ∀ s pre x a', OwnFrom w.heap.size (fun (_ : Unit) W => A s pre x a' W))
    (hstart : ∀ lb W0, Mp W0 mb es sv (some lb) (c + 1) → Ch (fun b => b = mb ∨ q = some b) w W0 → (q = some lb ∨ (q = none ∧ w.heap.size + 2 ≤ lb)) → w.heap.size + 2 ≤ W0.heap.size → I (lb, W0.heap.size) [] W0)
    (hassign : ∀ (m l : Nat) (s : Nat × Nat) (pre : List Ent) (x : Ent) (W : World) (K : Act → World → Prop), I s pre W → pre ++ [x] <+: pk es → (∀ a' W', KeepsFrom w.heap.size W W' → Kq (Xp (w.heap.size + 2) cb s) W W' → A s pre x a' W' → K a' W') →
      assign.wpIn (Fence.wide.inRound l) m Try.prog (Exit.then K (fun _ _ _ => False)) { tmps := (ps.zip (encm x)).foldl (fun t (p, v) => t.setIfInBounds p v) a.tmps, defers := [] } W)
    (hbody : ∀ (m l : Nat) (s : Nat × Nat) (pre : List Ent) (x : Ent) (a' : Act) (W : World), A s pre x a' W → pre ++ [x] <+: pk es → body.wpIn (Fence.wide.inRound l) m Try.prog (ownPostX w.heap.size (Kq (Xp (w.heap.size + 2) cb s)) (I s) (Ix s) (pre ++ [x]) W) a' W)
    (hout : ∀ s A W2, I s (pk es) A → Back (w.heap.size + 2) c s.1 A W2 → E W2) (houtx : ∀ s cc pre A W2, Ix s cc pre A → Back (w.heap.size + 2) c s.1 A W2 → Ex cc W2)
    (hdone : ∀ (W : World), E W → W.heap[w.heap.size]? = some (.deferred (some [])) → Q .normal { a with defers := { target := .collected w.heap.size, args := #[] } :: a.defers } W)
    (hstop : ∀ (cc : Code) (W : World), Ex cc W → W.heap[w.heap.size]? = some (.deferred (some [])) → cc.wpIn Fence.wide n Try.prog Q { a with defers := { target := .collected w.heap.size, args := #[] } :: a.defers } W) :
    (Code.rangeFunc g ps assign body).wpIn Fence.wide n Try.prog Q a w := by
  obtain ⟨bm, bp, rfl, hbm, hbp, _, _⟩ := hR
  obtain ⟨pf, pc, rfl, epf, hpick⟩ := pick_any hP hM hcb hn
  refine range_law (α := Ent) (σ := Nat × Nat) hg (enters_of Try.func53 (by kernel_rfl) rfl) encm (fun _ => hps) I Ix (fun s => Kq (Xp (w.heap.size + 2) cb s)) (fun _ pre x => pre ++ [x] <+: pk es) (fun _ W => E W) (fun cc _ W => Ex cc W) A
    hI hIx (fun _ X Y row h1 h2 h3 => hE () X Y row h1 h2 h3) (fun cc _ X Y row h1 h2 h3 => hEx cc () X Y row h1 h2 h3) hA (fun _ => Kq.trans) (fun _ W l o o' _ h ho => Kq.put W l o o' h ho) hassign hbody ?_ (fun _ W h hD => hdone W h hD) (fun cc _ W h hD => hstop cc W h hD)
  intro W1 R0 R1 hR0 hR1 hb hs h2 hcap
  have hM1 := hM.below hb
  have hbm1 := hbm.below hb hbm.lt
  have hbp1 := hbp.below hb hbp.lt
  have hchb : Ch (fun b => b = mb ∨ q = some b) w W1 := Ch.of_below hb
  refine (over1_any (l := w.heap.size + 1) (D := w.heap.size) (cb := cb) (zs := pk es) rfl (by omega) hM1 hc hbm1 hbp1 epf (fun W hc' hr => hpick W (hchb.trans hc') hr) (hM1.notBx hbm1 (by decide)) (hM1.notBx hbp1 (by decide)) I Ix
    (fun s => OwnFrom.up (hI s) hb.size) (fun s cc => OwnFrom.up (hIx s cc) hb.size) h2 hR0 hR1 (fun lb W0 h1 h2 h3 => hstart lb W0 h1 (hchb.trans h2) (by rw [hs] at h3; exact h3) (by have := h2.size; omega)) ?_).mono ?_
  · intro s pre x W hi hpx h2w
    rw [hs]
    exact hcap s pre x W hi hpx h2w
  · rintro e W2 ⟨hv, ⟨s, A', hi, hbk, h22⟩ | ⟨s, cc, pre, A', hi, hbk, h22⟩⟩
    · rw [hs] at hbk
      exact ⟨hv, .inl ⟨pk es, hout s A' W2 hi hbk, h22⟩⟩
    · rw [hs] at hbk
      exact ⟨hv, .inr ⟨cc, pre, houtx s cc pre A' W2 hi hbk, h22⟩⟩

theorem zip2 (p1 p2 : Tmp) (x : Ent) (t : Array Value) : ((#[p1, p2] : Array Tmp).zip (encm x)).foldl (fun t (p, v) => t.setIfInBounds p v) t = (t.setIfInBounds p1 (.string x.1)).setIfInBounds p2 (.int .i64 x.2) := by
  simp [encm, Array.zip]

/-- the same, where the assignment to the loop's variables lays no blocks -/
theorem range_map2 {g : Operand} {p1 p2 : Tmp} {assign body : Code} {Q : Exit → Act → World → Prop} {a : Act} {w : World} {n n₀ : Nat} {f pv : Value} {pk : List Ent → List Ent} {mb cb : Nat} {es : List Ent} {sv : Value} {q : Option Nat} {c : Nat}
    (r1 r2 : Nat)
    (hg : a.eval g = f) (hR : Rg w n₀ f (some ⟨mb, 0, none⟩) pv) (hP : Pk w pv pk) (hM : Mp w mb es sv q c) (hcb : ∀ g, sv.ownBlock = some g → g = cb) (hn : es.length < 4611686018427387904) (hc : c < 4611686018427387904)
    (I : Nat × Nat → List Ent → World → Prop) (Ix : Nat × Nat → Code → List Ent → World → Prop) (E : World → Prop) (Ex : Code → World → Prop)
    (hI : ∀ s, OwnFrom w.heap.size (I s)) (hIx : ∀ s c, OwnFrom w.heap.size (Ix s c)) (hE : OwnFrom w.heap.size (fun (_ : Unit) W => E W)) (hEx : ∀ c, OwnFrom w.heap.size (fun (_ : Unit) W => Ex c W))
    (hstart : ∀ lb W0, Mp W0 mb es sv (some lb) (c + 1) → Ch (fun b => b = mb ∨ q = some b) w W0 → (q = some lb ∨ (q = none ∧ w.heap.size + 2 ≤ lb)) → w.heap.size + 2 ≤ W0.heap.size → I (lb, W0.heap.size) [] W0)
    (hassign : ∀ (m l : Nat) (x : Ent) (W : World) (K : Act → World → Prop), K { tmps := (((a.tmps.setIfInBounds p1 (.string x.1)).setIfInBounds p2 (.int .i64 x.2)).setIfInBounds r1 (.string x.1)).setIfInBounds r2 (.int .i64 x.2), defers := [] } W →
      assign.wpIn (Fence.wide.inRound l) m Try.prog (Exit.then K (fun _ _ _ => False)) { tmps := (a.tmps.setIfInBounds p1 (.string x.1)).setIfInBounds p2 (.int .i64 x.2), defers := [] } W)
    (hbody : ∀ (m l : Nat) (s : Nat × Nat) (pre : List Ent) (x : Ent) (W : World), I s pre W → pre ++ [x] <+: pk es → body.wpIn (Fence.wide.inRound l) m Try.prog (ownPostX w.heap.size (Kq (Xp (w.heap.size + 2) cb s)) (I s) (Ix s) (pre ++ [x]) W) { tmps := (((a.tmps.setIfInBounds p1 (.string x.1)).setIfInBounds p2 (.int .i64 x.2)).setIfInBounds r1 (.string x.1)).setIfInBounds r2 (.int .i64 x.2), defers := [] } W)
    (hout : ∀ s A W2, I s (pk es) A → Back (w.heap.size + 2) c s.1 A W2 → E W2) (houtx : ∀ s cc pre A W2, Ix s cc pre A → Back (w.heap.size + 2) c s.1 A W2 → Ex cc W2)
    (hdone : ∀ (W : World), E W → W.heap[w.heap.size]? = some (.deferred (some [])) → Q .normal { a with defers := { target := .collected w.heap.size, args := #[] } :: a.defers } W)
    (hstop : ∀ (cc : Code) (W : World), Ex cc W → W.heap[w.heap.size]? = some (.deferred (some [])) → cc.wpIn Fence.wide n Try.prog Q { a with defers := { target := .collected w.heap.size, args := #[] } :: a.defers } W) :
    (Code.rangeFunc g #[p1, p2] assign body).wpIn Fence.wide n Try.prog Q a w :=
  range_map (ps := #[p1, p2]) hg hR hP hM hcb hn hc rfl I Ix E Ex (fun s pre x a' W => I s pre W ∧ a' = { tmps := (((a.tmps.setIfInBounds p1 (.string x.1)).setIfInBounds p2 (.int .i64 x.2)).setIfInBounds r1 (.string x.1)).setIfInBounds r2 (.int .i64 x.2), defers := [] }) hI hIx hE hEx
    (fun s pre _ _ _ X Y row h1 h2 h3 => ⟨hI s pre X Y row h1.1 h2 h3, h1.2⟩) hstart
    (fun m l s pre x W K hi _ hK => by rw [zip2]; exact hassign m l x W K (hK _ _ (KeepsFrom.refl _ _) (Kq.refl _ _) ⟨hi, rfl⟩))
    (fun m l s pre x a' W h hnx => by obtain ⟨hi, rfl⟩ := h; exact hbody m l s pre x W hi hnx) hout houtx hdone hstop
end Go.Proofs.Ytkohcdefhaokiaa

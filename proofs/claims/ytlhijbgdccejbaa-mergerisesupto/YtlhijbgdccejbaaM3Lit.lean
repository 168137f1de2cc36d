/-
  Literal rows and literal slices of ranges; what the document's examples come to.
-/
import Derived.Test.YtlhijbgdccejbaaM3Mrg
import Derived.Test.YtlhijbgdccejbaaM3Same
import Derived.Test.YtlhijbgdccejbaaM3Ovr
import Derived.Test.YtlhijbgdccejbaaM3Told
import Derived.Test.YtlhijbgdccejbaaM3Take
namespace Go.Proofs.Ytlhijbgdccejbaa
open Go.RowKit Go.Shelf Go.Sort
open Go.Lib hiding intOf

theorem rw_lit {W : World} {b : Nat} {t : TypeId} {cs : Array Value} (l : List Ent) (h : W.heap[b]? = some (.cells cs t (0, 0))) (hcs : cs = (flat l).toArray) : Rw W (.slice (some ⟨b, 0, none⟩) l.length l.length) l := by
  subst hcs
  refine ⟨_, _, rfl, .inr ⟨b, 0, rfl, (Array.getElem?_eq_some_iff.1 h).1, fun j hj => ?_⟩⟩
  rw [Nat.zero_add]
  constructor
  · simp only [World.cell?, h, List.getElem?_toArray]
    exact flat_key l j hj
  · simp only [World.cell?, h, List.getElem?_toArray]
    exact flat_val l j hj
theorem rgs_of {W : World} {b : Nat} {t : TypeId} {cs : Array Value} {ls : List (List Ent)} {X : Nat → Prop} (fs : List Value) (hb : W.heap[b]? = some (.cells cs t (0, 0))) (hcs : cs = fs.toArray) (hX : ∀ k, X k → k < W.heap.size) (hXb : X b) (hS : ∀ (j : Nat) (h : j < ls.length), ∃ u, fs[j]? = some u ∧ Sn W u ls[j] X) : Rgs W (.slice (some ⟨b, 0, none⟩) ls.length ls.length) ls X := by
  subst hcs
  refine ⟨hX, .inr ⟨b, 0, _, rfl, Nat.le_refl _, hXb, fun j hj => ?_⟩⟩
  obtain ⟨u, h1, h2⟩ := hS j hj
  refine ⟨u, ?_, h2⟩
  rw [Nat.zero_add]
  simp only [World.cell?, hb, List.getElem?_toArray]
  exact h1
theorem rgs_two {W : World} {b : Nat} {t : TypeId} {f1 f2 : Value} {l1 l2 : List Ent} {X1 X2 : Nat → Prop} (hb : W.heap[b]? = some (.cells #[f1, f2] t (0, 0))) (h1 : Sn W f1 l1 X1) (h2 : Sn W f2 l2 X2) : Rgs W (.slice (some ⟨b, 0, none⟩) 2 2) [l1, l2] (fun k => X1 k ∨ X2 k ∨ k = b) := by
  have hX : ∀ k, (X1 k ∨ X2 k ∨ k = b) → k < W.heap.size := by
    rintro k (h | h | rfl)
    · exact h1.1 k h
    · exact h2.1 k h
    · exact (Array.getElem?_eq_some_iff.1 hb).1
  refine rgs_of (ls := [l1, l2]) [f1, f2] hb rfl hX (.inr (.inr rfl)) (fun j hj => ?_)
  match j, hj with
  | 0, _ => exact ⟨f1, rfl, h1.wide (fun k h => .inl h) hX⟩
  | 1, _ => exact ⟨f2, rfl, h2.wide (fun k h => .inr (.inl h)) hX⟩
theorem rgs_three {W : World} {b : Nat} {t : TypeId} {f1 f2 f3 : Value} {l1 l2 l3 : List Ent} {X1 X2 X3 : Nat → Prop} (hb : W.heap[b]? = some (.cells #[f1, f2, f3] t (0, 0))) (h1 : Sn W f1 l1 X1) (h2 : Sn W f2 l2 X2) (h3 : Sn W f3 l3 X3) : Rgs W (.slice (some ⟨b, 0, none⟩) 3 3) [l1, l2, l3] (fun k => X1 k ∨ X2 k ∨ X3 k ∨ k = b) := by
  have hX : ∀ k, (X1 k ∨ X2 k ∨ X3 k ∨ k = b) → k < W.heap.size := by
    rintro k (h | h | h | rfl)
    · exact h1.1 k h
    · exact h2.1 k h
    · exact h3.1 k h
    · exact (Array.getElem?_eq_some_iff.1 hb).1
  refine rgs_of (ls := [l1, l2, l3]) [f1, f2, f3] hb rfl hX (.inr (.inr (.inr rfl))) (fun j hj => ?_)
  match j, hj with
  | 0, _ => exact ⟨f1, rfl, h1.wide (fun k h => .inl h) hX⟩
  | 1, _ => exact ⟨f2, rfl, h2.wide (fun k h => .inr (.inl h)) hX⟩
  | 2, _ => exact ⟨f3, rfl, h3.wide (fun k h => .inr (.inr (.inl h))) hX⟩
theorem rgs_one {W : World} {b : Nat} {t : TypeId} {f1 : Value} {l1 : List Ent} {X1 : Nat → Prop} (hb : W.heap[b]? = some (.cells #[f1] t (0, 0))) (h1 : Sn W f1 l1 X1) : Rgs W (.slice (some ⟨b, 0, none⟩) 1 1) [l1] (fun k => X1 k ∨ k = b) := by
  have hX : ∀ k, (X1 k ∨ k = b) → k < W.heap.size := by
    rintro k (h | rfl)
    · exact h1.1 k h
    · exact (Array.getElem?_eq_some_iff.1 hb).1
  refine rgs_of (ls := [l1]) [f1] hb rfl hX (.inr rfl) (fun j hj => ?_)
  match j, hj with
  | 0, _ => exact ⟨f1, rfl, h1.wide (fun k h => .inl h) hX⟩
theorem most_all (l : List Ent) : most (-1) l = l := by simp [most]
theorem over_f {w : World} {v : Value} {l : List Ent} (h : Rw w v l) (hn : l.length * 24 ≤ 140737488355328) : Calls Try.prog 10 #[v] w fun e w' => ∃ g b X, e = .returned (.func (.func g) #[] b) ∧ Sn w' (.func (.func g) #[] b) l X ∧ Below w.heap.size w w' ∧ ∀ k, X k → w.heap.size ≤ k := by
  refine (over_any h hn).mono ?_
  rintro e w' ⟨f, X, rfl, hS, hX, hB⟩
  have hS' := hS
  obtain ⟨g, b, rfl, -⟩ := hS
  exact ⟨g, b, X, rfl, hS'.sn, hB, hX⟩
theorem Merge_f {w : World} {lv : Value} {ls : List (List Ent)} {X : Nat → Prop} (h : Rgs w lv ls X) (hn : sumLen ls * 24 ≤ 140737488355328) (hbig : ls.length * 8 ≤ 140737488355328) : Calls Try.prog 11 #[lv] w fun e w' => ∃ g b Y, e = .returned (.func (.func g) #[] b) ∧ Sn w' (.func (.func g) #[] b) (merged ls) Y ∧ Below w.heap.size w w' ∧ ∀ k, Y k → X k ∨ w.heap.size ≤ k := by
  refine (Merge_any h hn hbig).mono ?_
  rintro e w' ⟨f, Y, rfl, hS, hX, hB⟩
  have hS' := hS
  obtain ⟨g, b, rfl, -⟩ := hS
  exact ⟨g, b, Y, rfl, hS'.sn, hB, hX⟩
theorem Take_f {w : World} {sv : Value} {n : Int} {l : List Ent} {X : Nat → Prop} (hS : Sn w sv l X) (hn : n ≤ 9223372036854775807) : Calls Try.prog 17 #[sv, .int .i64 n] w fun e w' => ∃ g b Y, e = .returned (.func (.func g) #[] b) ∧ Sn w' (.func (.func g) #[] b) (l.take n.toNat) Y ∧ Below w.heap.size w w' := by
  refine (Take_any hS hn).mono ?_
  rintro e w' ⟨f, rfl, hS, hB⟩
  have hS' := hS
  obtain ⟨g, b, rfl, -⟩ := hS
  exact ⟨g, b, _, rfl, hS'.sn, hB⟩
/-- is its value even? -/
def evn (x : Ent) : Bool := x.2.tmod 2 == 0
theorem Keep_f {w : World} {sv : Value} {l : List Ent} {X : Nat → Prop} (hS : Sn w sv l X) : Calls Try.prog 15 #[sv, .func (.func 16) #[] #[]] w fun e w' => ∃ g b Y, e = .returned (.func (.func g) #[] b) ∧ Sn w' (.func (.func g) #[] b) (l.filter evn) Y ∧ Below w.heap.size w w' := by
  refine (Keep_any (p := evn) hS (enters_of Try.func16 (by kernel_rfl) rfl) even_any).mono ?_
  rintro e w' ⟨f, rfl, hS, hB⟩
  have hS' := hS
  obtain ⟨g, b, rfl, -⟩ := hS
  exact ⟨g, b, _, rfl, hS'.sn, hB⟩
theorem KeepNil_f {w : World} {sv : Value} {l : List Ent} {X : Nat → Prop} (hS : Sn w sv l X) : Calls Try.prog 15 #[sv, .nilFunc] w fun e w' => ∃ g b Y, e = .returned (.func (.func g) #[] b) ∧ Sn w' (.func (.func g) #[] b) l Y ∧ Below w.heap.size w w' := by
  refine (Keep_nil hS).mono ?_
  rintro e w' ⟨f, Y, rfl, hS, _, hB⟩
  have hS' := hS
  obtain ⟨g, b, rfl, -⟩ := hS
  exact ⟨g, b, _, rfl, hS'.sn, hB⟩
theorem told_f {w : World} {f : Value} {l : List Ent} {X : Nat → Prop} (hS : Sn w f l X) (m : Int) (hn : l.length * 24 ≤ 140737488355328) : Calls Try.prog 13 #[f, .int .i64 m] w fun e w' => ∃ a c, e = .returned (.slice a (most m l).length c) ∧ Rw w' (.slice a (most m l).length c) (most m l) ∧ Below w.heap.size w w' := by
  refine (told_any hS m hn).mono ?_
  rintro e w' ⟨v, rfl, hr, hB⟩
  have hr' := hr
  obtain ⟨a, c, rfl, -⟩ := row_slice hr
  exact ⟨a, c, rfl, rw_of_row hr', hB⟩
theorem all_f {w : World} {f : Value} {l : List Ent} {X : Nat → Prop} (hS : Sn w f l X) (hn : l.length * 24 ≤ 140737488355328) : Calls Try.prog 13 #[f, .int .i64 (-1)] w fun e w' => ∃ a c, e = .returned (.slice a l.length c) ∧ Rw w' (.slice a l.length c) l ∧ Below w.heap.size w w' := by
  have := told_f hS (-1) hn
  rwa [most_all] at this
theorem Rw.b {w w' : World} {v : Value} {l : List Ent} (h : Rw w v l) (hb : Below w.heap.size w w') : Rw w' v l := h.below hb (Nat.le_refl _)
/-- one more block -/
theorem bal (w : World) (o : Obj) : Below w.heap.size w (w.alloc o) := (Below.refl _ w).alloc (Nat.le_refl _) o
theorem btr {w w1 w2 : World} (h : Below w.heap.size w w1) (k : Below w1.heap.size w1 w2) : Below w.heap.size w w2 := h.trans (k.mono h.size)
theorem shown_list : merged [[(⟨#[97]⟩, 1), (⟨#[99]⟩, 2)], [(⟨#[97]⟩, 3), (⟨#[98]⟩, 4)]] = [(⟨#[97]⟩, 1), (⟨#[98]⟩, 4), (⟨#[99]⟩, 2)] := by
  have ac : lt ⟨#[97]⟩ ⟨#[99]⟩ = true := (lt_iff _ _).2 (by decide)
  have ab : lt ⟨#[97]⟩ ⟨#[98]⟩ = true := (lt_iff _ _).2 (by decide)
  have bc : lt ⟨#[98]⟩ ⟨#[99]⟩ = true := (lt_iff _ _).2 (by decide)
  have r1 : risen [(⟨#[97]⟩, 1), (⟨#[99]⟩, 2)] = [(⟨#[97]⟩, 1), (⟨#[99]⟩, 2)] := by simp [risen, above, ac]
  have r2 : risen [(⟨#[97]⟩, 3), (⟨#[98]⟩, 4)] = [(⟨#[97]⟩, 3), (⟨#[98]⟩, 4)] := by simp [risen, above, ab]
  show putAll (putAll [] (risen _)) (risen _) = _
  rw [r1, r2, putAll_nil (by simp [Rise, ab])]
  show put (put _ _ _) _ _ = _
  rw [show put [((⟨#[97]⟩ : ByteArray), (3 : Int)), (⟨#[98]⟩, 4)] ⟨#[97]⟩ 1 = _ from put_cons_eq (y := ((⟨#[97]⟩ : ByteArray), (3 : Int)))]
  rw [put_cons_lt ac, put_cons_lt bc, put_nil]
end Go.Proofs.Ytlhijbgdccejbaa

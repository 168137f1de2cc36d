/-
  What an argument that is a slice gives to a walk.
-/
import Derived.Test.YtbegpbaklagcpaaGreatB16Tnx
import Derived.Test.YtbegpbaklagcpaaGreatRows
import Derived.ProofKit
import Derived.LaidMore
import Derived.OpenShut
import Derived.ShutString
import Derived.SizedLaws
import Derived.Deep.Slices
import Derived.Deep.Strs
import Derived.Lib.SmallJoins
namespace Go.Proofs.YtbegpbaklagcpaaGreat.f13
open Go.ChangeShapes Go.WideShapes Go.ChangeAt Go.WideMaps Go.WideElems Go.RowKit

theorem own13 : ownKnob Tryz.prog.godebug = none := by kernel_rfl
theorem laidOut13 : laidOutB Tryz.prog = true := by kernel_rfl
/-- the weights of one argument -/
theorem sized_at {H : Type} {P : Program} {ts : List TypeId} {ds : List (DataW H)} (h : (DataW.weightsEach P ts ds).all (· ≤ reachBytes) = true) {i : Nat} {t : TypeId} {d : DataW H} (ht : ts[i]? = some t) (hd : ds[i]? = some d) : (d.weights P t).all (· ≤ reachBytes) = true := by
  rw [List.all_eq_true] at h ⊢
  exact fun n hn => h n (DataW.weights_mem_each ht hd n hn)
theorem mem_weightsAll13 {H : Type} {e : TypeId} {n : Nat} {x : DataW H} (hx : n ∈ x.weights Tryz.prog e) : ∀ {l : List (DataW H)}, x ∈ l → n ∈ DataW.weightsAll Tryz.prog e l
  | y :: r, h => by
    rw [DataW.weightsAll, List.mem_append]
    rcases List.mem_cons.1 h with rfl | h
    · exact .inl hx
    · exact .inr (mem_weightsAll13 hx h)
theorem bounds_u64 {n : Int} (h : (Lit.int .u64 n).wf = true) : 0 ≤ n ∧ n < 18446744073709551616 := by
  simp [Lit.wf, IntKind.min, IntKind.max, IntKind.signed, IntKind.bits] at h
  omega
theorem nat_u64 {n : Int} (h : (Lit.int .u64 n).wf = true) : ∃ k : Nat, n = (k : Int) := ⟨n.toNat, by have := bounds_u64 h; omega⟩
theorem lt_u64 {k : Nat} (h : (Lit.int .u64 (k : Int)).wf = true) : k < 18446744073709551616 := by have := (bounds_u64 h).2; omega

set_option maxRecDepth 100000 in
/-- a slice of elements, whatever they are -/
theorem openRows {H : Type} {enc : TypeId × Value → H} {W : World} {α : Type} {k : Nat} {c : α → List Value} {Q R : α → Prop} {t et : TypeId} {sz : Nat}
    (hk : ∀ x, (c x).length = k) (hu : Tryz.prog.underlying t = some (.slice et)) (hc : Tryz.prog.cellsOf et = k) (h0 : 0 < k) (hby : Tryz.prog.bytesOf et = sz)
    (elem : ∀ (fuel : Nat) (cs : List Value) (y : DataW H × List MemPlace), cs.length = k → DataW.trod enc Tryz.prog W 0 (fun _ => true) true fuel et cs = some y → ∃ x, cs = c x ∧ Q x ∧ ((y.1.weights Tryz.prog et).all (· ≤ reachBytes) = true → R x))
    {cs0 : List Value} {fuel : Nat} {x : DataW H × List MemPlace}
    (hf : DataW.trod enc Tryz.prog W 0 (fun _ => true) true fuel t cs0 = some x) :
    ∃ (v : Value) (l : List α), cs0 = [v] ∧ Rr k c W v l ∧ (∀ x ∈ l, Q x) ∧ ((x.1.weights Tryz.prog t).all (· ≤ reachBytes) = true → l.length * sz ≤ 140737488351232 ∧ ∀ x ∈ l, R x) := by
  rcases Deep.open_slice hu hf with ⟨hcs, hx⟩ | ⟨x', len0, cap0, m, n, D, Pl, hcs, _, hl, hm, hmm, hx, hall⟩
  · exact ⟨_, [], hcs, Rr.nil W, fun _ h => absurd h List.not_mem_nil, fun _ => ⟨by simp, fun _ h => absurd h List.not_mem_nil⟩⟩
  · subst hx
    have hmc : m = cap0 := by simpa using hmm
    have each : ∀ i, i < len0 → ∃ r : α, (∀ (j : Nat) (u : Value), (c r)[j]? = some u → W.cell? (x'.add (i * k + j)) = some u) ∧ Q r ∧ (((D i).weights Tryz.prog et).all (· ≤ reachBytes) = true → R r) := by
      intro i hi
      obtain ⟨cs, h1, h2⟩ := hall i (by omega)
      rw [hc] at h1
      obtain ⟨_, hlen, hcell⟩ := World.cells?_some h1
      obtain ⟨r, hr, hq, hw⟩ := elem _ cs _ hlen h2
      subst hr
      refine ⟨r, fun j u hj => ?_, hq, hw⟩
      have hjl : j < k := by rw [← hk r]; exact (List.getElem?_eq_some_iff.1 hj).1
      have := hcell j hjl
      rw [Addr.add_add] at this
      rw [this]
      first | exact hj | simpa using (List.getElem?_eq_some_iff.1 hj).2
    by_cases hz : len0 = 0
    · subst hz
      exact ⟨_, [], hcs, ⟨some x', cap0, rfl, ⟨Nat.zero_le _, fun e => by cases e⟩, .inl rfl⟩, fun _ h => absurd h List.not_mem_nil, fun _ => ⟨by simp, fun _ h => absurd h List.not_mem_nil⟩⟩
    haveI : Inhabited α := ⟨(each 0 (by omega)).choose⟩
    obtain ⟨X, hX⟩ := Deep.choose_lt each
    have hlen : ((List.range len0).map X).length = len0 := by simp
    refine ⟨_, (List.range len0).map X, hcs, ⟨some x', cap0, by rw [hlen], ⟨by rw [hlen]; omega, fun e => by cases e⟩, ?_⟩, fun r hr => ?_, fun hw => ?_⟩
    · · right
        obtain ⟨u0, hu0⟩ : ∃ u, (c (X 0))[0]? = some u := ⟨(c (X 0))[0]'(by rw [hk]; exact h0), List.getElem?_eq_getElem _⟩
        have hcc := (hX 0 (by omega)).1 0 _ hu0
        obtain ⟨b, off, spot⟩ := x'
        have hspot : spot = none := by simpa [Addr.add] using World.cell?_spot hcc
        subst hspot
        refine ⟨b, off, rfl, ?_, fun j hj i u hi => ?_⟩
        · rw [Addr.add_lit] at hcc
          exact World.block_lt_of_cell? _ _ hcc
        · rw [hlen] at hj
          have hj3 := (hX j hj).1 i u (by simpa using hi)
          rw [Addr.add_lit] at hj3
          simpa [Nat.add_assoc] using hj3
    · obtain ⟨j, hj, rfl⟩ := List.mem_map.1 hr
      exact (hX j (List.mem_range.1 hj)).2.1
    · simp only [DataW.weights, hu, List.all_cons, Bool.and_eq_true, decide_eq_true_eq, List.all_append, List.length_map, List.length_range] at hw
      rw [hby] at hw
      have hr : reachBytes = 140737488351232 := rfl
      refine ⟨by rw [hlen]; exact Nat.le_trans (Nat.mul_le_mul_right sz (by omega)) hw.1, fun r hr' => ?_⟩
      obtain ⟨j, hj, rfl⟩ := List.mem_map.1 hr'
      have hj' := List.mem_range.1 hj
      refine (hX j hj').2.2 (List.all_eq_true.2 fun n hn => List.all_eq_true.1 hw.2.1 n (mem_weightsAll13 hn (List.mem_map.2 ⟨j, hj, rfl⟩)))

set_option maxRecDepth 100000 in
/-- an argument that is a slice of bools -/
theorem openBo {H : Type} {enc : TypeId × Value → H} {W : World} {v : Value} {d : DataW H} {p : List MemPlace} (hv : ∃ a n c, v = .slice a n c)
    (h : DataW.Trod enc Tryz.prog W 0 (fun _ => true) true 77 v d p) : ∃ l : List Bo, Rr 1 Bo.c W v l := by
  obtain ⟨a, n, c, rfl⟩ := hv
  obtain ⟨fuel, hf⟩ := h
  change DataW.trod enc Tryz.prog W 0 (fun _ => true) true fuel 77 [.slice a n c] = some (d, p) at hf
  obtain ⟨v', l, e, h1, -, -⟩ := openRows (α := Bo) (c := Bo.c) (Q := fun _ => True) (R := fun _ => True) (k := 1) (fun _ => rfl) Tryz.underlying77 (by kernel_rfl) (by omega) (sz := 1) (by kernel_rfl) (fun fuel cs y hl h => by
    obtain ⟨b, e, -⟩ := DataW.trod_bool Tryz.underlying4 h
    exact ⟨b, e, trivial, fun _ => trivial⟩) hf
  simp only [List.cons.injEq, and_true] at e
  subst e
  exact ⟨l, h1⟩
end Go.Proofs.YtbegpbaklagcpaaGreat.f13

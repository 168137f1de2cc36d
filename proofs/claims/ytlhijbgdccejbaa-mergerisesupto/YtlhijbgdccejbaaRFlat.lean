/-
  The cells of entries, two each.
-/
import Derived.Test.YtlhijbgdccejbaaRRefQ
namespace Go.Proofs.Ytlhijbgdccejbaa
open Go.RowKit Go.Shelf Go.Sort
open Go.Lib hiding intOf

/-- the cells of a map's entries -/
def flat (es : List (ByteArray × Int)) : List Value := es.flatMap (fun e => [Value.string e.1, Value.int .i64 e.2])

theorem flat_length (es : List (ByteArray × Int)) : (flat es).length = es.length * 2 := by
  induction es with
  | nil => rfl
  | cons e r ih => simp only [flat, List.flatMap_cons, List.length_append, List.length_cons, List.length_nil] at *; omega

theorem flat_key : ∀ (es : List (ByteArray × Int)) (j : Nat) (h : j < es.length), (flat es)[j * 2]? = some (.string es[j].1)
  | e :: r, 0, _ => rfl
  | e :: r, j + 1, h => by
    have := flat_key r j (by simpa using h)
    rw [show (j + 1) * 2 = j * 2 + 1 + 1 by omega]
    simpa [flat] using this

theorem flat_val : ∀ (es : List (ByteArray × Int)) (j : Nat) (h : j < es.length), (flat es)[j * 2 + 1]? = some (.int .i64 es[j].2)
  | e :: r, 0, _ => rfl
  | e :: r, j + 1, h => by
    have := flat_val r j (by simpa using h)
    rw [show (j + 1) * 2 + 1 = (j * 2 + 1) + 1 + 1 by omega]
    simpa [flat] using this

theorem flat_append (a b : List (ByteArray × Int)) : flat (a ++ b) = flat a ++ flat b := by simp [flat]

theorem flat_take (es : List (ByteArray × Int)) (n : Nat) : flat (es.take n) = (flat es).take (n * 2) := by
  induction es generalizing n with
  | nil => simp [flat]
  | cons e r ih =>
    cases n with
    | zero => simp [flat]
    | succ n =>
      rw [show (n + 1) * 2 = n * 2 + 1 + 1 by omega]
      have := ih n
      simp only [flat, List.flatMap_cons, List.take_succ_cons, List.cons_append, List.nil_append] at *
      rw [this]

theorem flat_drop (es : List (ByteArray × Int)) (n : Nat) : flat (es.drop n) = (flat es).drop (n * 2) := by
  induction es generalizing n with
  | nil => simp [flat]
  | cons e r ih =>
    cases n with
    | zero => simp [flat]
    | succ n =>
      rw [show (n + 1) * 2 = n * 2 + 1 + 1 by omega]
      have := ih n
      simp only [flat, List.flatMap_cons, List.drop_succ_cons, List.cons_append, List.nil_append] at *
      rw [this]

theorem two_cells {w : World} {vb : Nat} {x y : Value} {t : TypeId} (hv : w.heap[vb]? = some (.cells #[x, y] t (0, 0))) : ∀ j u, ([x, y] : List Value)[j]? = some u → w.cell? ⟨vb, 0 + j, none⟩ = some u := by
  intro j u hj
  match j, hj with
  | 0, hj => simp at hj; subst hj; simp [World.cell?, hv]
  | 1, hj => simp at hj; subst hj; simp [World.cell?, hv]

theorem flat_one (es : List (ByteArray × Int)) : ∀ v ∈ flat es, v.oneCell' = true := by
  intro v hv
  simp only [flat, List.mem_flatMap] at hv
  obtain ⟨e, _, he⟩ := hv
  simp at he
  rcases he with rfl | rfl <;> rfl
end Go.Proofs.Ytlhijbgdccejbaa

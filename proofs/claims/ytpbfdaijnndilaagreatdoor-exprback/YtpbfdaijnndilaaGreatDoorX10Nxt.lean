/-
  Package expr's reader: words, marks, numbers.
-/
import Derived.Test.YtpbfdaijnndilaaGreatDoorGExprT
import Derived.Test.YtpbfdaijnndilaaGreatDoorX10Lay
import Derived.Laws.Rows
import Derived.Lib.ParseIntBCases
namespace Go.Proofs.YtpbfdaijnndilaaGreatDoor.x10
open Go.RowKit Go.Shelf Go.Sort
open Go.Lib hiding intOf

/-- cells of the reader's own were set -/
theorem Rm.sets {w w' : World} {B b : Nat} {s : List UInt8} {st st' : Rs} {pv : Value} (h : Rm w B b s st pv) (c : Ch (fun k => k = b) w w') (ho : Ro w' b (rcs s st' pv)) (hp : st'.parts = st.parts) : Rm w' B b s st' pv ∧ Lf w b pv w' pv :=
  ⟨⟨ho, by rw [hp]; exact c.row h.row (fun k hk e => h.ap (e ▸ hk)), h.ap, h.lo⟩, ⟨c.mono (fun _ _ e => .inl e), fun _ hx => .inl hx⟩⟩
theorem chAt {w u : World} {b : Nat} (h : Ch (fun k => k = b) w u) (i : Nat) (v : Value) : Ch (fun k => k = b) w (u.setCell ⟨b, i, none⟩ v) := h.setCell _ _ (fun _ => rfl)
theorem chRe (w : World) (b : Nat) : Ch (fun k => k = b) w w := Ch.refl _ w
theorem S_data (l : List UInt8) : (S l).data.toList = l := by simp [S]

set_option maxHeartbeats 1000000 in
theorem reserved_any (a : ByteArray) (w : World) : Calls Tryz.prog 117 #[.string a] w fun e w' => e = .returned (.bool (wds.contains a.data.toList)) ∧ w' = w := by
  cases h : wds.contains a.data.toList with
  | true =>
    rcases word_lit h with rfl | rfl | rfl | rfl | rfl | rfl
    all_goals
      clear h
      go_enter Tryz.func117, Tryz.ntmps117
      go_wp2
      go_ret
      exact ⟨rfl, rfl⟩
  | false =>
    simp only [wds, List.contains_cons, Bool.or_eq_false_iff, beq_eq_false_iff_ne] at h
    obtain ⟨h1, h2, h3, h4, h5, h6, -⟩ := h
    have c1 := beq_lit h1
    have c2 := beq_lit h2
    have c3 := beq_lit h3
    have c4 := beq_lit h4
    have c5 := beq_lit h5
    have c6 := beq_lit h6
    clear h1 h2 h3 h4 h5 h6
    go_enter Tryz.func117, Tryz.ntmps117
    go_wp2
    go_ret
    exact ⟨rfl, rfl⟩

/-- what a word comes to -/
def wrdR (r : List UInt8) (st : Rs) : Ot Rs := if namV r || wds.contains r then .ok { st with now := { st.now with kind := 3, s := r }, beh := st.beh + r.length } else .no 10 st.now.at'

set_option maxHeartbeats 800000 in
set_option maxRecDepth 100000 in
theorem word_any {w : World} {B b : Nat} {s : List UInt8} {st : Rs} {pv : Value} (h : Rm w B b s st pv) (r : List UInt8) (hr : r.length ≤ 512) (hb : st.beh ≤ 512) : Calls Tryz.prog 95 #[.pointer (some ⟨b, 0, none⟩), .string (S r)] w (Rp w B b s pv (wrdR r st)) := by
  have hlt := h.ob.lt
  have c7 := h.ob.c 7
  have c1 := h.ob.c 1
  have c3 := h.ob.c 3
  have f1 := h.ob.f 1
  have f3 := h.ob.f 3
  have f7 := h.ob.f 7
  simp only [rcs, List.getElem?_toArray, List.getElem?_cons_zero, List.getElem?_cons_succ] at c7 c1 c3
  have CN := Named_any (S r) (by rw [S_size]; omega)
  have CV := reserved_any (S r)
  rw [S_data] at CN CV
  have CF := refuse_any h
  have hz := S_size r
  have hw : IntKind.i64.wrap ((st.beh : Int) + (r.length : Int)) = (st.beh : Int) + (r.length : Int) := by rw [IntKind.wrap_i64]; omega
  have HH : Hid (Rm w B b s st pv) := h
  have HOK : Hid (namV r || wds.contains r → Rp w B b s pv (wrdR r st) (.returned (.tuple #[])) (((w.setCell ⟨b, 1, none⟩ (.int .i64 3)).setCell ⟨b, 3, none⟩ (.string (S r))).setCell ⟨b, 7, none⟩ (.int .i64 ((st.beh : Int) + (r.length : Int))))) := fun hq => by
    unfold wrdR
    rw [if_pos hq]
    refine ⟨rfl, pv, h.sets (chAt (chAt (chAt (chRe w b) 1 _) 3 _) 7 _) ?_ rfl⟩
    have := ((h.ob.set 1 (.int .i64 3)).set 3 (.string (S r))).set 7 (.int .i64 ((st.beh : Int) + (r.length : Int)))
    simpa [rcs] using this
  have HNO : Hid ((namV r || wds.contains r) = false → Rp w B b s pv (wrdR r st) (.panicked (wrg 10 st.now.at')) w) := fun hq => by
    unfold wrdR
    rw [hq]
    exact ⟨rfl, Ch.refl _ w⟩
  clear h
  cases q1 : namV r with
  | true =>
    rw [q1] at CN HOK
    go_enter Tryz.func95, Tryz.ntmps95
    go_wp2_with (first
      | (go_at_call 62; refine (CN _).mono ?_; rintro e w1 ⟨rfl, hw1⟩; rw [hw1]; clear hw1))
    go_end0
    exact HOK.out rfl
  | false =>
    rw [q1] at CN HOK HNO
    cases q2 : wds.contains r with
    | true =>
      rw [q2] at CV HOK
      go_enter Tryz.func95, Tryz.ntmps95
      go_wp2_with (first
        | (go_at_call 62; refine (CN _).mono ?_; rintro e w1 ⟨rfl, hw1⟩; rw [hw1]; clear hw1)
        | (go_at_call 117; refine (CV _).mono ?_; rintro e w1 ⟨rfl, hw1⟩; rw [hw1]; clear hw1))
      go_end0
      exact HOK.out rfl
    | false =>
      rw [q2] at CV HNO
      go_enter Tryz.func95, Tryz.ntmps95
      go_wp2_with (first
        | (go_at_call 62; refine (CN _).mono ?_; rintro e w1 ⟨rfl, hw1⟩; rw [hw1]; clear hw1)
        | (go_at_call 117; refine (CV _).mono ?_; rintro e w1 ⟨rfl, hw1⟩; rw [hw1]; clear hw1)
        | (go_at_call 49; refine CF.mono ?_; rintro e w1 ⟨rfl, hw1⟩; rw [hw1]; clear hw1))
      exact ⟨rfl, HNO.out rfl⟩

def mksV : Array Value := (mks.map fun m => Value.string (S m)).toArray
def sgsV : Array Value := (sgs.map fun p => [Value.string (S p.1), Value.int .i64 p.2]).flatten.toArray
/-- what the program's variables hold, in every memory that keeps what lies below B -/
def Gx (B : Nat) (w : World) : Prop := ∀ W, Below B w W → W.var? Tryz.prog "wherry/expr.signs" = some sgsV ∧ W.var? Tryz.prog "wherry/expr.marks" = some mksV ∧ (∃ tp p, W.var? Tryz.prog "strconv.ErrRange" = some #[.iface tp p]) ∧ ∃ tp p, W.var? Tryz.prog "strconv.ErrSyntax" = some #[.iface tp p]
theorem Gx.below {B : Nat} {w w' : World} (h : Gx B w) (hb : Below B w w') : Gx B w' := fun W hW => h W (hb.trans hW)
theorem var_heap {w : World} {n : String} {g : Nat} {cs : Array Value} (hg : Tryz.prog.globalNamed n = some g) (h : w.var? Tryz.prog n = some cs) : ∃ t fr, w.heap[g]? = some (.cells cs t fr) := by
  unfold World.var? at h
  rw [hg] at h
  simp only [Option.bind_some] at h
  split at h
  · rename_i c t fr e
    cases h
    exact ⟨_, _, e⟩
  · cases h
theorem hp_any (l m : List UInt8) (w : World) : Calls Tryz.prog 121 #[.string (S l), .string (S m)] w fun e w' => e = .returned (.bool (m.isPrefixOf l)) ∧ w' = w := by
  have := Any.strings_HasPrefix hpLay (S l) (S m) w
  rw [S_data, S_data] at this
  exact this
end Go.Proofs.YtpbfdaijnndilaaGreatDoor.x10

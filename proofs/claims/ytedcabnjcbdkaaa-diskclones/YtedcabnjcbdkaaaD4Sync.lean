/-
  The document's disk (wherryref04): Sync.
-/
import Derived.Test.YtedcabnjcbdkaaaD4Ref
namespace Go.Proofs.Ytedcabnjcbdkaaa
open Go.RowKit Go.Shelf Go.Sort
open Go.Lib hiding intOf

theorem fcells_set1 : ∀ (l : List Fil) (j : Nat) (h : j < l.length) (s : ByteArray), (fcells l).set (j * 3 + 1) (.string s) = fcells (l.set j (l[j].1, s, l[j].2.2))
  | f :: r, 0, _, s => rfl
  | f :: r, j + 1, h, s => by
    have := fcells_set1 r j (by simpa using h) s
    rw [show (j + 1) * 3 + 1 = (j * 3 + 1) + 1 + 1 + 1 by omega]
    simpa [fcells] using this
theorem fcells_set2 : ∀ (l : List Fil) (j : Nat) (h : j < l.length) (s : ByteArray), (fcells l).set (j * 3 + 2) (.string s) = fcells (l.set j (l[j].1, l[j].2.1, s))
  | f :: r, 0, _, s => rfl
  | f :: r, j + 1, h, s => by
    have := fcells_set2 r j (by simpa using h) s
    rw [show (j + 1) * 3 + 2 = (j * 3 + 2) + 1 + 1 + 1 by omega]
    simpa [fcells] using this
/-- a file's safe bytes are set -/
theorem Dk.safe {w : World} {db base : Nat} {fs : List Fil} {p : Int} {off : Bool} {g m c : Nat} (h : Dk w db base fs p off (.slice (some ⟨g, 0, none⟩) m c)) {i : Nat} (hi : i < fs.length) (s : ByteArray) :
    Dk (w.setCell ⟨g, i * 3 + 1, none⟩ (.string s)) db base (fs.set i (fs[i].1, s, fs[i].2.2)) p off (.slice (some ⟨g, 0, none⟩) m c) := by
  obtain rfl : m = fs.length := by
    rcases h.row.2 with ⟨e, _⟩ | ⟨_, _, _, e, _⟩
    · cases e
    · cases e; rfl
  have hne : g ≠ db := by
    rintro rfl
    obtain ⟨_, cur, hx⟩ := row_obj h.row (g := g) rfl
    rw [h.hd] at hx; injection hx with x; injection x with _ x; cases x
  obtain ⟨h1, h2⟩ := h.row.stored (i * 3 + 1) (.string s)
  refine ⟨(h2.block db h.lt (fun e => hne (by cases e; rfl))).trans h.hd, ?_⟩
  rw [fcells_set1 fs i hi s] at h1
  rw [List.length_set]
  exact h1
/-- a file's rest is set -/
theorem Dk.rest {w : World} {db base : Nat} {fs : List Fil} {p : Int} {off : Bool} {g m c : Nat} (h : Dk w db base fs p off (.slice (some ⟨g, 0, none⟩) m c)) {i : Nat} (hi : i < fs.length) (s : ByteArray) :
    Dk (w.setCell ⟨g, i * 3 + 2, none⟩ (.string s)) db base (fs.set i (fs[i].1, fs[i].2.1, s)) p off (.slice (some ⟨g, 0, none⟩) m c) := by
  obtain rfl : m = fs.length := by
    rcases h.row.2 with ⟨e, _⟩ | ⟨_, _, _, e, _⟩
    · cases e
    · cases e; rfl
  have hne : g ≠ db := by
    rintro rfl
    obtain ⟨_, cur, hx⟩ := row_obj h.row (g := g) rfl
    rw [h.hd] at hx; injection hx with x; injection x with _ x; cases x
  obtain ⟨h1, h2⟩ := h.row.stored (i * 3 + 2) (.string s)
  refine ⟨(h2.block db h.lt (fun e => hne (by cases e; rfl))).trans h.hd, ?_⟩
  rw [fcells_set2 fs i hi s] at h1
  rw [List.length_set]
  exact h1
theorem row_fro {w : World} {base : Nat} {e : TypeId} {size g m n cap : Nat} {xs : List Value} (h : w.ownsRow base e size (.slice (some ⟨g, 0, none⟩) m cap) n xs) (j : Nat) : w.frozen? ⟨g, j, none⟩ = false := by
  rcases h.2 with ⟨e1, _⟩ | ⟨g', cap', cur, e1, _, hg, _⟩
  · cases e1
  · cases e1
    simp [World.frozen?, hg]
/-- what Sync answers -/
def syncNo (fs : List Fil) (p : Int) (off : Bool) (k : ByteArray) : Int := if askNo fs off k ≠ 0 then askNo fs off k else if powOk p then 0 else 7
set_option maxRecDepth 100000 in
set_option maxHeartbeats 4000000 in
theorem dsync_ok {w : World} {db base : Nat} {fs : List Fil} {p : Int} {sv : Value} (h : Dk w db base fs p false sv) (k : ByteArray) (hn : fs.length < 4611686018427387904) (hp : -9223372036854775808 ≤ p ∧ p ≤ 9223372036854775807) {i : Nat} (hi : i < fs.length) (hx : fnum fs k = (i : Int)) (hpo : powOk p = true) (hsz : fs[i].2.1.size + fs[i].2.2.size ≤ 9223372036854775807) :
    Calls Try.prog 29 #[.pointer (some ⟨db, 0, none⟩), .string k] w fun e w' => e = .returned (.int .i64 0) ∧ Dk w' db base (fs.set i (fs[i].1, fs[i].2.1 ++ fs[i].2.2, ⟨#[]⟩)) (powOf p) false sv ∧ Ch (fun x => x = db ∨ sv.ownBlock = some x) w w' := by
  have hA := dasks_any h k hn
  have ha : askNo fs false k = 0 := by simp [askNo, hx]
  rw [ha, if_pos rfl, hx] at hA
  have hB := dact_any h hp
  rw [hpo] at hB
  clear ha hx
  obtain ⟨g, c, rfl⟩ : ∃ g c, sv = .slice (some ⟨g, 0, none⟩) fs.length c := by
    rcases h.row.2 with ⟨e, h0⟩ | ⟨g, cap', cur, e, -⟩
    · omega
    · exact ⟨g, cap', e⟩
  have hli : (i : Int) < (fs.length : Int) := by omega
  have hi0 : (0 : Int) ≤ (i : Int) := Int.natCast_nonneg _
  have hcat := fun W : World => run_string_add_sum (P := Try.prog) (w := W) fs[i].2.1 fs[i].2.2 hsz
  clear h
  go_enter Try.func29, Try.ntmps29
  go_wp2_with (first
    | (go_at_call 40; refine hA.mono ?_; rintro e w1 ⟨rfl, rfl⟩)
    | (go_at_call 42; (refine hB.mono ?_; rintro e w2 ⟨rfl, D2, C2⟩; have c0 := D2.c0; have m1 := row_cell D2.row (fcells_at fs i hi).2.1; have m2 := row_cell D2.row (fcells_at fs i hi).2.2; have fr := row_fro D2.row (i * 3 + 1); have D3 := D2.safe hi (fs[i].2.1 ++ fs[i].2.2); have d0 := D3.c0; have fr2 := row_fro D3.row (i * 3 + 2); have HD : Hid _ := And.intro D2 (And.intro C2 D3); clear D2 C2 D3)))
  go_region
  all_goals go_wp2
  all_goals
    go_ret
    obtain ⟨D2, C2, D3⟩ := HD.out
    have D4 := D3.rest (i := i) (by simpa using hi) ⟨#[]⟩
    simp only [List.getElem_set_self, List.set_set] at D4
    refine ⟨rfl, ⟨D4.hd, D4.row⟩, ?_⟩
    have C3 : Ch (fun x => x = db ∨ some g = some x) w2 ((w2.setCell ⟨g, i * 3 + 1, none⟩ (.string (fs[i].2.1 ++ fs[i].2.2))).setCell ⟨g, i * 3 + 2, none⟩ (.string ⟨#[]⟩)) := ((Ch.refl _ w2).setCell _ _ (fun _ => .inr rfl)).setCell _ _ (fun _ => .inr rfl)
    have C4 := (C2.mono (Y := fun x => x = db ∨ some g = some x) (fun k _ e => .inl e)).trans C3
    exact ⟨C4.os, C4.tape, C4.output, C4.size, C4.block⟩

set_option maxHeartbeats 2000000 in
theorem dsync_no {w : World} {db base : Nat} {fs : List Fil} {p : Int} {off : Bool} {sv : Value} (h : Dk w db base fs p off sv) (k : ByteArray) (hn : fs.length < 4611686018427387904) (hb : askNo fs off k ≠ 0) :
    Calls Try.prog 29 #[.pointer (some ⟨db, 0, none⟩), .string k] w fun e w' => e = .returned (.int .i64 (askNo fs off k)) ∧ w' = w := by
  have hA := dasks_any h k hn
  rw [if_neg hb] at hA
  clear h
  generalize askNo fs off k = z at *
  have hz : (z == 0) = false := by simpa using hb
  go_enter Try.func29, Try.ntmps29
  go_wp2_with (go_at_call 40; refine hA.mono ?_; rintro e w1 ⟨rfl, rfl⟩)
  go_ret
  exact ⟨rfl, rfl⟩

set_option maxHeartbeats 2000000 in
theorem dsync_off {w : World} {db base : Nat} {fs : List Fil} {sv : Value} (h : Dk w db base fs 0 false sv) (k : ByteArray) (hn : fs.length < 4611686018427387904) (hb : askNo fs false k = 0) :
    Calls Try.prog 29 #[.pointer (some ⟨db, 0, none⟩), .string k] w fun e w' => e = .returned (.int .i64 7) ∧ Dk w' db base fs 0 true sv ∧ Ch (fun x => x = db) w w' := by
  have hA := dasks_any h k hn
  rw [hb, if_pos rfl] at hA
  have hB := dact_any h (by decide)
  rw [show powOk 0 = false from rfl, show powOf 0 = 0 from rfl] at hB
  clear h
  generalize fnum fs k = z at *
  go_enter Try.func29, Try.ntmps29
  go_wp2_with (first
    | (go_at_call 40; refine hA.mono ?_; rintro e w1 ⟨rfl, rfl⟩)
    | (go_at_call 42; refine hB.mono ?_; rintro e w2 ⟨rfl, D2, C2⟩; have HD : Hid _ := And.intro D2 C2; clear D2 C2))
  go_ret
  exact ⟨rfl, HD.out.1, HD.out.2⟩

set_option maxRecDepth 100000 in
set_option maxHeartbeats 4000000 in
theorem dread_ok {w : World} {db base : Nat} {fs : List Fil} {p : Int} {sv : Value} (h : Dk w db base fs p false sv) (k : ByteArray) (hn : fs.length < 4611686018427387904) {i : Nat} (hi : i < fs.length) (hx : fnum fs k = (i : Int)) (hsz : fs[i].2.1.size + fs[i].2.2.size ≤ 9223372036854775807) :
    Calls Try.prog 23 #[.pointer (some ⟨db, 0, none⟩), .string k] w fun e w' => e = .returned (.tuple #[.string (fs[i].2.1 ++ fs[i].2.2), .int .i64 0]) ∧ ∃ n, w' = w.drewN n := by
  have hA := dasks_any h k hn
  have ha : askNo fs false k = 0 := by simp [askNo, hx]
  rw [ha, if_pos rfl, hx] at hA
  clear ha hx
  obtain ⟨g, c, rfl⟩ : ∃ g c, sv = .slice (some ⟨g, 0, none⟩) fs.length c := by
    rcases h.row.2 with ⟨e, h0⟩ | ⟨g, cap', cur, e, -⟩
    · omega
    · exact ⟨g, cap', e⟩
  have hli : (i : Int) < (fs.length : Int) := by omega
  have hi0 : (0 : Int) ≤ (i : Int) := Int.natCast_nonneg _
  have hcat := fun W : World => run_string_add_sum (P := Try.prog) (w := W) fs[i].2.1 fs[i].2.2 hsz
  have c0 := h.c0
  have m1 := row_cell h.row (fcells_at fs i hi).2.1
  have m2 := row_cell h.row (fcells_at fs i hi).2.2
  clear h
  go_enter Try.func23, Try.ntmps23
  go_wp2_with (go_at_call 40; refine hA.mono ?_; rintro e w1 ⟨rfl, rfl⟩)
  go_quiet (fail)
  all_goals go_wp2
  all_goals go_ret2
  all_goals exact ⟨rfl, _, rfl⟩
end Go.Proofs.Ytedcabnjcbdkaaa

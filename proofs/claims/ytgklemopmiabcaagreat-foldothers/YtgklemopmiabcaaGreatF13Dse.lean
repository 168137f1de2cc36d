/-
  Two states that are the same, list by list.
-/
import Derived.Test.YtgklemopmiabcaaGreatF13Cl
import Derived.Test.YtgklemopmiabcaaGreatF13Sm9
namespace Go.Proofs.YtgklemopmiabcaaGreat.f13
open Go.RowKit Go.Shelf Go.Sort
open Go.Lib hiding intOf

/-- two rows of the same elements -/
def EwDe (w : World) (pa qa : Option Addr) (n : Nat) : Prop := ∀ i : Nat, i < n → ∃ (x : De) (b off b' off' : Nat), pa = some ⟨b, off, none⟩ ∧ qa = some ⟨b', off', none⟩ ∧ (∀ W, Below w.heap.size w W → (W.cell? ⟨b, off + i * 2 + 0, none⟩ = some (.string (S x.id)) ∧ W.cell? ⟨b, off + i * 2 + 1, none⟩ = some (.string (S x.bs))) ∧ (W.cell? ⟨b', off' + i * 2 + 0, none⟩ = some (.string (S x.id)) ∧ W.cell? ⟨b', off' + i * 2 + 1, none⟩ = some (.string (S x.bs))))
theorem EwDe.of {w : World} {s t : St} {pa qa : Option Addr} {pc qc : Nat} (hs : Sv w s) (ht : Sv w t) (he : s.e = t.e) (_hz : Sz s) (hp : s.vDe = .slice pa s.procs.length pc) (hq : t.vDe = .slice qa t.procs.length qc) : EwDe w pa qa s.procs.length := by
  intro i hi
  have gDe : t.procs = s.procs := by have := congrArg St.procs he; exact this.symm
  have lDe : t.procs.length = s.procs.length := by rw [gDe]
  have HP := hs.rDe
  have HQ := ht.rDe
  rw [hp] at HP
  rw [hq] at HQ
  have hi' : i < t.procs.length := by rw [lDe]; exact hi
  obtain ⟨b, off, c1, v1, -, -, h1⟩ := HP.at hi
  obtain ⟨b', off', c2, v2, -, -, h2⟩ := HQ.at hi'
  injection v1 with v1
  injection v2 with v2
  have ei : t.procs[i] = s.procs[i] := by simp only [gDe]
  exact ⟨s.procs[i], b, off, b', off', v1, v2, fun W hW => ⟨⟨h1 W hW i hi 0 _ rfl, h1 W hW i hi 1 _ rfl⟩, (h2 W hW i hi' 0 _ rfl).trans (by rw [ei]), (h2 W hW i hi' 1 _ rfl).trans (by rw [ei])⟩⟩

/-- two rows of the same elements -/
def EwIn (w : World) (pa qa : Option Addr) (n : Nat) : Prop := ∀ i : Nat, i < n → ∃ (x : In) (pvv qvv : Value) (b off b' off' : Nat), pa = some ⟨b, off, none⟩ ∧ qa = some ⟨b', off', none⟩ ∧ (∀ W, Below w.heap.size w W → (W.cell? ⟨b, off + i * 3 + 0, none⟩ = some (.int .u64 (x.key : Int)) ∧ W.cell? ⟨b, off + i * 3 + 1, none⟩ = some (.string (S x.id)) ∧ W.cell? ⟨b, off + i * 3 + 2, none⟩ = some (pvv)) ∧ (W.cell? ⟨b', off' + i * 3 + 0, none⟩ = some (.int .u64 (x.key : Int)) ∧ W.cell? ⟨b', off' + i * 3 + 1, none⟩ = some (.string (S x.id)) ∧ W.cell? ⟨b', off' + i * 3 + 2, none⟩ = some (qvv))) ∧ Rr 4 Vr.c w pvv x.vars ∧ Rr 4 Vr.c w qvv x.vars ∧ x.vars.length * 48 ≤ 211106232528000
theorem EwIn.of {w : World} {s t : St} {pa qa : Option Addr} {pc qc : Nat} (hs : Sv w s) (ht : Sv w t) (he : s.e = t.e) (hz : Sz s) (hp : s.vIn = .slice pa s.insts.length pc) (hq : t.vIn = .slice qa t.insts.length qc) : EwIn w pa qa s.insts.length := by
  intro i hi
  have gIn : t.insts.map In.e = s.insts.map In.e := by have := congrArg St.insts he; exact this.symm
  have lIn : t.insts.length = s.insts.length := by have := congrArg List.length gIn; simpa using this
  have HP := hs.rIn
  have HQ := ht.rIn
  rw [hp] at HP
  rw [hq] at HQ
  have hi' : i < t.insts.length := by rw [lIn]; exact hi
  obtain ⟨b, off, c1, v1, -, -, h1⟩ := HP.at hi
  obtain ⟨b', off', c2, v2, -, -, h2⟩ := HQ.at hi'
  injection v1 with v1
  injection v2 with v2
  have ei : (In.e t.insts[i]) = (In.e s.insts[i]) := by
    have := congrArg (fun l => l[i]?) gIn
    simp only [List.getElem?_map, List.getElem?_eq_getElem hi, List.getElem?_eq_getElem hi', Option.map_some] at this
    exact Option.some.inj this
  have f_key : t.insts[i].key = s.insts[i].key := by have := congrArg In.key ei; exact this
  have f_id : t.insts[i].id = s.insts[i].id := by have := congrArg In.id ei; exact this
  have f_vars : t.insts[i].vars = s.insts[i].vars := by have := congrArg In.vars ei; exact this
  exact ⟨s.insts[i], s.insts[i].vv, t.insts[i].vv, b, off, b', off', v1, v2, fun W hW => ⟨⟨h1 W hW i hi 0 _ rfl, h1 W hW i hi 1 _ rfl, h1 W hW i hi 2 _ rfl⟩, (h2 W hW i hi' 0 _ rfl).trans (by rw [f_key]), (h2 W hW i hi' 1 _ rfl).trans (by rw [f_id]), h2 W hW i hi' 2 _ rfl⟩, hs.iIn _ (List.getElem_mem hi), (f_vars ▸ ht.iIn _ (List.getElem_mem hi')), hz.mIn _ (List.getElem_mem hi)⟩

/-- two rows of the same elements -/
def EwTk (w : World) (pa qa : Option Addr) (n : Nat) : Prop := ∀ i : Nat, i < n → ∃ (x : Tk) (b off b' off' : Nat), pa = some ⟨b, off, none⟩ ∧ qa = some ⟨b', off', none⟩ ∧ (∀ W, Below w.heap.size w W → (W.cell? ⟨b, off + i * 6 + 0, none⟩ = some (.int .u64 (x.key : Int)) ∧ W.cell? ⟨b, off + i * 6 + 1, none⟩ = some (.int .u64 (x.inst : Int)) ∧ W.cell? ⟨b, off + i * 6 + 2, none⟩ = some (.int .u64 (x.scope : Int)) ∧ W.cell? ⟨b, off + i * 6 + 3, none⟩ = some (.int .i64 x.node) ∧ W.cell? ⟨b, off + i * 6 + 4, none⟩ = some (.int .i64 x.flow) ∧ W.cell? ⟨b, off + i * 6 + 5, none⟩ = some (.string (S x.stuck))) ∧ (W.cell? ⟨b', off' + i * 6 + 0, none⟩ = some (.int .u64 (x.key : Int)) ∧ W.cell? ⟨b', off' + i * 6 + 1, none⟩ = some (.int .u64 (x.inst : Int)) ∧ W.cell? ⟨b', off' + i * 6 + 2, none⟩ = some (.int .u64 (x.scope : Int)) ∧ W.cell? ⟨b', off' + i * 6 + 3, none⟩ = some (.int .i64 x.node) ∧ W.cell? ⟨b', off' + i * 6 + 4, none⟩ = some (.int .i64 x.flow) ∧ W.cell? ⟨b', off' + i * 6 + 5, none⟩ = some (.string (S x.stuck))))
theorem EwTk.of {w : World} {s t : St} {pa qa : Option Addr} {pc qc : Nat} (hs : Sv w s) (ht : Sv w t) (he : s.e = t.e) (_hz : Sz s) (hp : s.vTk = .slice pa s.tokens.length pc) (hq : t.vTk = .slice qa t.tokens.length qc) : EwTk w pa qa s.tokens.length := by
  intro i hi
  have gTk : t.tokens = s.tokens := by have := congrArg St.tokens he; exact this.symm
  have lTk : t.tokens.length = s.tokens.length := by rw [gTk]
  have HP := hs.rTk
  have HQ := ht.rTk
  rw [hp] at HP
  rw [hq] at HQ
  have hi' : i < t.tokens.length := by rw [lTk]; exact hi
  obtain ⟨b, off, c1, v1, -, -, h1⟩ := HP.at hi
  obtain ⟨b', off', c2, v2, -, -, h2⟩ := HQ.at hi'
  injection v1 with v1
  injection v2 with v2
  have ei : t.tokens[i] = s.tokens[i] := by simp only [gTk]
  exact ⟨s.tokens[i], b, off, b', off', v1, v2, fun W hW => ⟨⟨h1 W hW i hi 0 _ rfl, h1 W hW i hi 1 _ rfl, h1 W hW i hi 2 _ rfl, h1 W hW i hi 3 _ rfl, h1 W hW i hi 4 _ rfl, h1 W hW i hi 5 _ rfl⟩, (h2 W hW i hi' 0 _ rfl).trans (by rw [ei]), (h2 W hW i hi' 1 _ rfl).trans (by rw [ei]), (h2 W hW i hi' 2 _ rfl).trans (by rw [ei]), (h2 W hW i hi' 3 _ rfl).trans (by rw [ei]), (h2 W hW i hi' 4 _ rfl).trans (by rw [ei]), (h2 W hW i hi' 5 _ rfl).trans (by rw [ei])⟩⟩

/-- two rows of the same elements -/
def EwJb (w : World) (pa qa : Option Addr) (n : Nat) : Prop := ∀ i : Nat, i < n → ∃ (x : Jb) (b off b' off' : Nat), pa = some ⟨b, off, none⟩ ∧ qa = some ⟨b', off', none⟩ ∧ (∀ W, Below w.heap.size w W → (W.cell? ⟨b, off + i * 6 + 0, none⟩ = some (.int .u64 (x.key : Int)) ∧ W.cell? ⟨b, off + i * 6 + 1, none⟩ = some (.int .u64 (x.token : Int)) ∧ W.cell? ⟨b, off + i * 6 + 2, none⟩ = some (.string (S x.typ)) ∧ W.cell? ⟨b, off + i * 6 + 3, none⟩ = some (.int .i64 x.retr) ∧ W.cell? ⟨b, off + i * 6 + 4, none⟩ = some (.string (S x.wkr)) ∧ W.cell? ⟨b, off + i * 6 + 5, none⟩ = some (.int .i64 x.unt)) ∧ (W.cell? ⟨b', off' + i * 6 + 0, none⟩ = some (.int .u64 (x.key : Int)) ∧ W.cell? ⟨b', off' + i * 6 + 1, none⟩ = some (.int .u64 (x.token : Int)) ∧ W.cell? ⟨b', off' + i * 6 + 2, none⟩ = some (.string (S x.typ)) ∧ W.cell? ⟨b', off' + i * 6 + 3, none⟩ = some (.int .i64 x.retr) ∧ W.cell? ⟨b', off' + i * 6 + 4, none⟩ = some (.string (S x.wkr)) ∧ W.cell? ⟨b', off' + i * 6 + 5, none⟩ = some (.int .i64 x.unt)))
theorem EwJb.of {w : World} {s t : St} {pa qa : Option Addr} {pc qc : Nat} (hs : Sv w s) (ht : Sv w t) (he : s.e = t.e) (_hz : Sz s) (hp : s.vJb = .slice pa s.jobs.length pc) (hq : t.vJb = .slice qa t.jobs.length qc) : EwJb w pa qa s.jobs.length := by
  intro i hi
  have gJb : t.jobs = s.jobs := by have := congrArg St.jobs he; exact this.symm
  have lJb : t.jobs.length = s.jobs.length := by rw [gJb]
  have HP := hs.rJb
  have HQ := ht.rJb
  rw [hp] at HP
  rw [hq] at HQ
  have hi' : i < t.jobs.length := by rw [lJb]; exact hi
  obtain ⟨b, off, c1, v1, -, -, h1⟩ := HP.at hi
  obtain ⟨b', off', c2, v2, -, -, h2⟩ := HQ.at hi'
  injection v1 with v1
  injection v2 with v2
  have ei : t.jobs[i] = s.jobs[i] := by simp only [gJb]
  exact ⟨s.jobs[i], b, off, b', off', v1, v2, fun W hW => ⟨⟨h1 W hW i hi 0 _ rfl, h1 W hW i hi 1 _ rfl, h1 W hW i hi 2 _ rfl, h1 W hW i hi 3 _ rfl, h1 W hW i hi 4 _ rfl, h1 W hW i hi 5 _ rfl⟩, (h2 W hW i hi' 0 _ rfl).trans (by rw [ei]), (h2 W hW i hi' 1 _ rfl).trans (by rw [ei]), (h2 W hW i hi' 2 _ rfl).trans (by rw [ei]), (h2 W hW i hi' 3 _ rfl).trans (by rw [ei]), (h2 W hW i hi' 4 _ rfl).trans (by rw [ei]), (h2 W hW i hi' 5 _ rfl).trans (by rw [ei])⟩⟩

/-- two rows of the same elements -/
def EwTm (w : World) (pa qa : Option Addr) (n : Nat) : Prop := ∀ i : Nat, i < n → ∃ (x : Tm) (b off b' off' : Nat), pa = some ⟨b, off, none⟩ ∧ qa = some ⟨b', off', none⟩ ∧ (∀ W, Below w.heap.size w W → (W.cell? ⟨b, off + i * 3 + 0, none⟩ = some (.int .u64 (x.token : Int)) ∧ W.cell? ⟨b, off + i * 3 + 1, none⟩ = some (.int .i64 x.node) ∧ W.cell? ⟨b, off + i * 3 + 2, none⟩ = some (.int .i64 x.at_)) ∧ (W.cell? ⟨b', off' + i * 3 + 0, none⟩ = some (.int .u64 (x.token : Int)) ∧ W.cell? ⟨b', off' + i * 3 + 1, none⟩ = some (.int .i64 x.node) ∧ W.cell? ⟨b', off' + i * 3 + 2, none⟩ = some (.int .i64 x.at_)))
theorem EwTm.of {w : World} {s t : St} {pa qa : Option Addr} {pc qc : Nat} (hs : Sv w s) (ht : Sv w t) (he : s.e = t.e) (_hz : Sz s) (hp : s.vTm = .slice pa s.timers.length pc) (hq : t.vTm = .slice qa t.timers.length qc) : EwTm w pa qa s.timers.length := by
  intro i hi
  have gTm : t.timers = s.timers := by have := congrArg St.timers he; exact this.symm
  have lTm : t.timers.length = s.timers.length := by rw [gTm]
  have HP := hs.rTm
  have HQ := ht.rTm
  rw [hp] at HP
  rw [hq] at HQ
  have hi' : i < t.timers.length := by rw [lTm]; exact hi
  obtain ⟨b, off, c1, v1, -, -, h1⟩ := HP.at hi
  obtain ⟨b', off', c2, v2, -, -, h2⟩ := HQ.at hi'
  injection v1 with v1
  injection v2 with v2
  have ei : t.timers[i] = s.timers[i] := by simp only [gTm]
  exact ⟨s.timers[i], b, off, b', off', v1, v2, fun W hW => ⟨⟨h1 W hW i hi 0 _ rfl, h1 W hW i hi 1 _ rfl, h1 W hW i hi 2 _ rfl⟩, (h2 W hW i hi' 0 _ rfl).trans (by rw [ei]), (h2 W hW i hi' 1 _ rfl).trans (by rw [ei]), (h2 W hW i hi' 2 _ rfl).trans (by rw [ei])⟩⟩

/-- two rows of the same elements -/
def EwSb (w : World) (pa qa : Option Addr) (n : Nat) : Prop := ∀ i : Nat, i < n → ∃ (x : Sb) (b off b' off' : Nat), pa = some ⟨b, off, none⟩ ∧ qa = some ⟨b', off', none⟩ ∧ (∀ W, Below w.heap.size w W → (W.cell? ⟨b, off + i * 6 + 0, none⟩ = some (.int .u64 (x.token : Int)) ∧ W.cell? ⟨b, off + i * 6 + 1, none⟩ = some (.int .u64 (x.inst : Int)) ∧ W.cell? ⟨b, off + i * 6 + 2, none⟩ = some (.int .i64 x.node) ∧ W.cell? ⟨b, off + i * 6 + 3, none⟩ = some (.string (S x.name)) ∧ W.cell? ⟨b, off + i * 6 + 4, none⟩ = some (.string (S x.key)) ∧ W.cell? ⟨b, off + i * 6 + 5, none⟩ = some (.bool x.opn)) ∧ (W.cell? ⟨b', off' + i * 6 + 0, none⟩ = some (.int .u64 (x.token : Int)) ∧ W.cell? ⟨b', off' + i * 6 + 1, none⟩ = some (.int .u64 (x.inst : Int)) ∧ W.cell? ⟨b', off' + i * 6 + 2, none⟩ = some (.int .i64 x.node) ∧ W.cell? ⟨b', off' + i * 6 + 3, none⟩ = some (.string (S x.name)) ∧ W.cell? ⟨b', off' + i * 6 + 4, none⟩ = some (.string (S x.key)) ∧ W.cell? ⟨b', off' + i * 6 + 5, none⟩ = some (.bool x.opn)))
theorem EwSb.of {w : World} {s t : St} {pa qa : Option Addr} {pc qc : Nat} (hs : Sv w s) (ht : Sv w t) (he : s.e = t.e) (_hz : Sz s) (hp : s.vSb = .slice pa s.subs.length pc) (hq : t.vSb = .slice qa t.subs.length qc) : EwSb w pa qa s.subs.length := by
  intro i hi
  have gSb : t.subs = s.subs := by have := congrArg St.subs he; exact this.symm
  have lSb : t.subs.length = s.subs.length := by rw [gSb]
  have HP := hs.rSb
  have HQ := ht.rSb
  rw [hp] at HP
  rw [hq] at HQ
  have hi' : i < t.subs.length := by rw [lSb]; exact hi
  obtain ⟨b, off, c1, v1, -, -, h1⟩ := HP.at hi
  obtain ⟨b', off', c2, v2, -, -, h2⟩ := HQ.at hi'
  injection v1 with v1
  injection v2 with v2
  have ei : t.subs[i] = s.subs[i] := by simp only [gSb]
  exact ⟨s.subs[i], b, off, b', off', v1, v2, fun W hW => ⟨⟨h1 W hW i hi 0 _ rfl, h1 W hW i hi 1 _ rfl, h1 W hW i hi 2 _ rfl, h1 W hW i hi 3 _ rfl, h1 W hW i hi 4 _ rfl, h1 W hW i hi 5 _ rfl⟩, (h2 W hW i hi' 0 _ rfl).trans (by rw [ei]), (h2 W hW i hi' 1 _ rfl).trans (by rw [ei]), (h2 W hW i hi' 2 _ rfl).trans (by rw [ei]), (h2 W hW i hi' 3 _ rfl).trans (by rw [ei]), (h2 W hW i hi' 4 _ rfl).trans (by rw [ei]), (h2 W hW i hi' 5 _ rfl).trans (by rw [ei])⟩⟩

/-- two rows of the same elements -/
def EwKp (w : World) (pa qa : Option Addr) (n : Nat) : Prop := ∀ i : Nat, i < n → ∃ (x : Kp) (b off b' off' : Nat), pa = some ⟨b, off, none⟩ ∧ qa = some ⟨b', off', none⟩ ∧ (∀ W, Below w.heap.size w W → (W.cell? ⟨b, off + i * 3 + 0, none⟩ = some (.int .u64 (x.token : Int)) ∧ W.cell? ⟨b, off + i * 3 + 1, none⟩ = some (.int .u64 (x.msg : Int)) ∧ W.cell? ⟨b, off + i * 3 + 2, none⟩ = some (.int .i64 x.node)) ∧ (W.cell? ⟨b', off' + i * 3 + 0, none⟩ = some (.int .u64 (x.token : Int)) ∧ W.cell? ⟨b', off' + i * 3 + 1, none⟩ = some (.int .u64 (x.msg : Int)) ∧ W.cell? ⟨b', off' + i * 3 + 2, none⟩ = some (.int .i64 x.node)))
theorem EwKp.of {w : World} {s t : St} {pa qa : Option Addr} {pc qc : Nat} (hs : Sv w s) (ht : Sv w t) (he : s.e = t.e) (_hz : Sz s) (hp : s.vKp = .slice pa s.kept.length pc) (hq : t.vKp = .slice qa t.kept.length qc) : EwKp w pa qa s.kept.length := by
  intro i hi
  have gKp : t.kept = s.kept := by have := congrArg St.kept he; exact this.symm
  have lKp : t.kept.length = s.kept.length := by rw [gKp]
  have HP := hs.rKp
  have HQ := ht.rKp
  rw [hp] at HP
  rw [hq] at HQ
  have hi' : i < t.kept.length := by rw [lKp]; exact hi
  obtain ⟨b, off, c1, v1, -, -, h1⟩ := HP.at hi
  obtain ⟨b', off', c2, v2, -, -, h2⟩ := HQ.at hi'
  injection v1 with v1
  injection v2 with v2
  have ei : t.kept[i] = s.kept[i] := by simp only [gKp]
  exact ⟨s.kept[i], b, off, b', off', v1, v2, fun W hW => ⟨⟨h1 W hW i hi 0 _ rfl, h1 W hW i hi 1 _ rfl, h1 W hW i hi 2 _ rfl⟩, (h2 W hW i hi' 0 _ rfl).trans (by rw [ei]), (h2 W hW i hi' 1 _ rfl).trans (by rw [ei]), (h2 W hW i hi' 2 _ rfl).trans (by rw [ei])⟩⟩

/-- two rows of the same elements -/
def EwLs (w : World) (pa qa : Option Addr) (n : Nat) : Prop := ∀ i : Nat, i < n → ∃ (x : Ls) (pvv qvv : Value) (b off b' off' : Nat), pa = some ⟨b, off, none⟩ ∧ qa = some ⟨b', off', none⟩ ∧ (∀ W, Below w.heap.size w W → (W.cell? ⟨b, off + i * 7 + 0, none⟩ = some (.int .u64 (x.token : Int)) ∧ W.cell? ⟨b, off + i * 7 + 1, none⟩ = some (.int .u64 (x.inst : Int)) ∧ W.cell? ⟨b, off + i * 7 + 2, none⟩ = some (.int .i64 x.node) ∧ W.cell? ⟨b, off + i * 7 + 3, none⟩ = some (.string (S x.name)) ∧ W.cell? ⟨b, off + i * 7 + 4, none⟩ = some (.string (S x.key)) ∧ W.cell? ⟨b, off + i * 7 + 5, none⟩ = some (.int .u64 (x.msg : Int)) ∧ W.cell? ⟨b, off + i * 7 + 6, none⟩ = some (pvv)) ∧ (W.cell? ⟨b', off' + i * 7 + 0, none⟩ = some (.int .u64 (x.token : Int)) ∧ W.cell? ⟨b', off' + i * 7 + 1, none⟩ = some (.int .u64 (x.inst : Int)) ∧ W.cell? ⟨b', off' + i * 7 + 2, none⟩ = some (.int .i64 x.node) ∧ W.cell? ⟨b', off' + i * 7 + 3, none⟩ = some (.string (S x.name)) ∧ W.cell? ⟨b', off' + i * 7 + 4, none⟩ = some (.string (S x.key)) ∧ W.cell? ⟨b', off' + i * 7 + 5, none⟩ = some (.int .u64 (x.msg : Int)) ∧ W.cell? ⟨b', off' + i * 7 + 6, none⟩ = some (qvv))) ∧ Rr 4 Vr.c w pvv x.vars ∧ Rr 4 Vr.c w qvv x.vars ∧ x.vars.length * 48 ≤ 211106232528000
theorem EwLs.of {w : World} {s t : St} {pa qa : Option Addr} {pc qc : Nat} (hs : Sv w s) (ht : Sv w t) (he : s.e = t.e) (hz : Sz s) (hp : s.vLs = .slice pa s.listed.length pc) (hq : t.vLs = .slice qa t.listed.length qc) : EwLs w pa qa s.listed.length := by
  intro i hi
  have gLs : t.listed.map Ls.e = s.listed.map Ls.e := by have := congrArg St.listed he; exact this.symm
  have lLs : t.listed.length = s.listed.length := by have := congrArg List.length gLs; simpa using this
  have HP := hs.rLs
  have HQ := ht.rLs
  rw [hp] at HP
  rw [hq] at HQ
  have hi' : i < t.listed.length := by rw [lLs]; exact hi
  obtain ⟨b, off, c1, v1, -, -, h1⟩ := HP.at hi
  obtain ⟨b', off', c2, v2, -, -, h2⟩ := HQ.at hi'
  injection v1 with v1
  injection v2 with v2
  have ei : (Ls.e t.listed[i]) = (Ls.e s.listed[i]) := by
    have := congrArg (fun l => l[i]?) gLs
    simp only [List.getElem?_map, List.getElem?_eq_getElem hi, List.getElem?_eq_getElem hi', Option.map_some] at this
    exact Option.some.inj this
  have f_token : t.listed[i].token = s.listed[i].token := by have := congrArg Ls.token ei; exact this
  have f_inst : t.listed[i].inst = s.listed[i].inst := by have := congrArg Ls.inst ei; exact this
  have f_node : t.listed[i].node = s.listed[i].node := by have := congrArg Ls.node ei; exact this
  have f_name : t.listed[i].name = s.listed[i].name := by have := congrArg Ls.name ei; exact this
  have f_key : t.listed[i].key = s.listed[i].key := by have := congrArg Ls.key ei; exact this
  have f_msg : t.listed[i].msg = s.listed[i].msg := by have := congrArg Ls.msg ei; exact this
  have f_vars : t.listed[i].vars = s.listed[i].vars := by have := congrArg Ls.vars ei; exact this
  exact ⟨s.listed[i], s.listed[i].vv, t.listed[i].vv, b, off, b', off', v1, v2, fun W hW => ⟨⟨h1 W hW i hi 0 _ rfl, h1 W hW i hi 1 _ rfl, h1 W hW i hi 2 _ rfl, h1 W hW i hi 3 _ rfl, h1 W hW i hi 4 _ rfl, h1 W hW i hi 5 _ rfl, h1 W hW i hi 6 _ rfl⟩, (h2 W hW i hi' 0 _ rfl).trans (by rw [f_token]), (h2 W hW i hi' 1 _ rfl).trans (by rw [f_inst]), (h2 W hW i hi' 2 _ rfl).trans (by rw [f_node]), (h2 W hW i hi' 3 _ rfl).trans (by rw [f_name]), (h2 W hW i hi' 4 _ rfl).trans (by rw [f_key]), (h2 W hW i hi' 5 _ rfl).trans (by rw [f_msg]), h2 W hW i hi' 6 _ rfl⟩, hs.iLs _ (List.getElem_mem hi), (f_vars ▸ ht.iLs _ (List.getElem_mem hi')), hz.mLs _ (List.getElem_mem hi)⟩

/-- two rows of the same elements -/
def EwMs (w : World) (pa qa : Option Addr) (n : Nat) : Prop := ∀ i : Nat, i < n → ∃ (x : Ms) (pvv qvv : Value) (piv qiv : Value) (b off b' off' : Nat), pa = some ⟨b, off, none⟩ ∧ qa = some ⟨b', off', none⟩ ∧ (∀ W, Below w.heap.size w W → (W.cell? ⟨b, off + i * 7 + 0, none⟩ = some (.int .u64 (x.key : Int)) ∧ W.cell? ⟨b, off + i * 7 + 1, none⟩ = some (.string (S x.name)) ∧ W.cell? ⟨b, off + i * 7 + 2, none⟩ = some (.string (S x.for_)) ∧ W.cell? ⟨b, off + i * 7 + 3, none⟩ = some (.string (S x.id)) ∧ W.cell? ⟨b, off + i * 7 + 4, none⟩ = some (.int .i64 x.unt) ∧ W.cell? ⟨b, off + i * 7 + 5, none⟩ = some (pvv) ∧ W.cell? ⟨b, off + i * 7 + 6, none⟩ = some (piv)) ∧ (W.cell? ⟨b', off' + i * 7 + 0, none⟩ = some (.int .u64 (x.key : Int)) ∧ W.cell? ⟨b', off' + i * 7 + 1, none⟩ = some (.string (S x.name)) ∧ W.cell? ⟨b', off' + i * 7 + 2, none⟩ = some (.string (S x.for_)) ∧ W.cell? ⟨b', off' + i * 7 + 3, none⟩ = some (.string (S x.id)) ∧ W.cell? ⟨b', off' + i * 7 + 4, none⟩ = some (.int .i64 x.unt) ∧ W.cell? ⟨b', off' + i * 7 + 5, none⟩ = some (qvv) ∧ W.cell? ⟨b', off' + i * 7 + 6, none⟩ = some (qiv))) ∧ Rr 4 Vr.c w pvv x.vars ∧ Rr 4 Vr.c w qvv x.vars ∧ x.vars.length * 48 ≤ 211106232528000 ∧ Rr 1 Un.c w piv x.its ∧ Rr 1 Un.c w qiv x.its ∧ x.its.length * 8 ≤ 211106232528000
theorem EwMs.of {w : World} {s t : St} {pa qa : Option Addr} {pc qc : Nat} (hs : Sv w s) (ht : Sv w t) (he : s.e = t.e) (hz : Sz s) (hp : s.vMs = .slice pa s.msgs.length pc) (hq : t.vMs = .slice qa t.msgs.length qc) : EwMs w pa qa s.msgs.length := by
  intro i hi
  have gMs : t.msgs.map Ms.e = s.msgs.map Ms.e := by have := congrArg St.msgs he; exact this.symm
  have lMs : t.msgs.length = s.msgs.length := by have := congrArg List.length gMs; simpa using this
  have HP := hs.rMs
  have HQ := ht.rMs
  rw [hp] at HP
  rw [hq] at HQ
  have hi' : i < t.msgs.length := by rw [lMs]; exact hi
  obtain ⟨b, off, c1, v1, -, -, h1⟩ := HP.at hi
  obtain ⟨b', off', c2, v2, -, -, h2⟩ := HQ.at hi'
  injection v1 with v1
  injection v2 with v2
  have ei : (Ms.e t.msgs[i]) = (Ms.e s.msgs[i]) := by
    have := congrArg (fun l => l[i]?) gMs
    simp only [List.getElem?_map, List.getElem?_eq_getElem hi, List.getElem?_eq_getElem hi', Option.map_some] at this
    exact Option.some.inj this
  have f_key : t.msgs[i].key = s.msgs[i].key := by have := congrArg Ms.key ei; exact this
  have f_name : t.msgs[i].name = s.msgs[i].name := by have := congrArg Ms.name ei; exact this
  have f_for_ : t.msgs[i].for_ = s.msgs[i].for_ := by have := congrArg Ms.for_ ei; exact this
  have f_id : t.msgs[i].id = s.msgs[i].id := by have := congrArg Ms.id ei; exact this
  have f_unt : t.msgs[i].unt = s.msgs[i].unt := by have := congrArg Ms.unt ei; exact this
  have f_vars : t.msgs[i].vars = s.msgs[i].vars := by have := congrArg Ms.vars ei; exact this
  have f_its : t.msgs[i].its = s.msgs[i].its := by have := congrArg Ms.its ei; exact this
  exact ⟨s.msgs[i], s.msgs[i].vv, t.msgs[i].vv, s.msgs[i].iv, t.msgs[i].iv, b, off, b', off', v1, v2, fun W hW => ⟨⟨h1 W hW i hi 0 _ rfl, h1 W hW i hi 1 _ rfl, h1 W hW i hi 2 _ rfl, h1 W hW i hi 3 _ rfl, h1 W hW i hi 4 _ rfl, h1 W hW i hi 5 _ rfl, h1 W hW i hi 6 _ rfl⟩, (h2 W hW i hi' 0 _ rfl).trans (by rw [f_key]), (h2 W hW i hi' 1 _ rfl).trans (by rw [f_name]), (h2 W hW i hi' 2 _ rfl).trans (by rw [f_for_]), (h2 W hW i hi' 3 _ rfl).trans (by rw [f_id]), (h2 W hW i hi' 4 _ rfl).trans (by rw [f_unt]), h2 W hW i hi' 5 _ rfl, h2 W hW i hi' 6 _ rfl⟩, hs.iMs _ (List.getElem_mem hi), (f_vars ▸ ht.iMs _ (List.getElem_mem hi')), hz.mMs _ (List.getElem_mem hi), hs.qMs _ (List.getElem_mem hi), (f_its ▸ ht.qMs _ (List.getElem_mem hi')), hz.kMs _ (List.getElem_mem hi)⟩
end Go.Proofs.YtgklemopmiabcaaGreat.f13

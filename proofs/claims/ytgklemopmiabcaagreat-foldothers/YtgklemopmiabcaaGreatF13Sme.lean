/-
  The document's Same of states that are the same: it says so.
-/
import Derived.Test.YtgklemopmiabcaaGreatF13Dsm
namespace Go.Proofs.YtgklemopmiabcaaGreat.f13
open Go.RowKit Go.Shelf Go.Sort
open Go.Lib hiding intOf
theorem dSame_yes {w : World} {s t : St} (hs : Sv w s) (ht : Sv w t) (he : s.e = t.e) (hz : Sz s) :
    Calls Tryz.prog 13 #[.agg s.c.toArray, .agg t.c.toArray] w fun e w' => e = .returned (.bool true) ∧ Below w.heap.size w w' := by
  have e0 : t.pos = s.pos := by have := congrArg St.pos he; exact this.symm
  have e1 : t.done = s.done := by have := congrArg St.done he; exact this.symm
  have e2 : t.made = s.made := by have := congrArg St.made he; exact this.symm
  obtain ⟨paDe, pcDe, hpDe, -⟩ := id hs.rDe
  obtain ⟨qaDe, qcDe, hqDe, -⟩ := id ht.rDe
  have lDe : t.procs.length = s.procs.length := by have := congrArg (fun z => z.procs.length) he; exact this.symm
  have EDe : Hid (EwDe w paDe qaDe s.procs.length) := EwDe.of hs ht he hz hpDe hqDe
  rw [lDe] at hqDe
  obtain ⟨paIn, pcIn, hpIn, -⟩ := id hs.rIn
  obtain ⟨qaIn, qcIn, hqIn, -⟩ := id ht.rIn
  have lIn : t.insts.length = s.insts.length := by have := congrArg (fun z => z.insts.length) he; simpa [St.e] using this.symm
  have EIn : Hid (EwIn w paIn qaIn s.insts.length) := EwIn.of hs ht he hz hpIn hqIn
  rw [lIn] at hqIn
  obtain ⟨paTk, pcTk, hpTk, -⟩ := id hs.rTk
  obtain ⟨qaTk, qcTk, hqTk, -⟩ := id ht.rTk
  have lTk : t.tokens.length = s.tokens.length := by have := congrArg (fun z => z.tokens.length) he; exact this.symm
  have ETk : Hid (EwTk w paTk qaTk s.tokens.length) := EwTk.of hs ht he hz hpTk hqTk
  rw [lTk] at hqTk
  obtain ⟨paJb, pcJb, hpJb, -⟩ := id hs.rJb
  obtain ⟨qaJb, qcJb, hqJb, -⟩ := id ht.rJb
  have lJb : t.jobs.length = s.jobs.length := by have := congrArg (fun z => z.jobs.length) he; exact this.symm
  have EJb : Hid (EwJb w paJb qaJb s.jobs.length) := EwJb.of hs ht he hz hpJb hqJb
  rw [lJb] at hqJb
  obtain ⟨paTm, pcTm, hpTm, -⟩ := id hs.rTm
  obtain ⟨qaTm, qcTm, hqTm, -⟩ := id ht.rTm
  have lTm : t.timers.length = s.timers.length := by have := congrArg (fun z => z.timers.length) he; exact this.symm
  have ETm : Hid (EwTm w paTm qaTm s.timers.length) := EwTm.of hs ht he hz hpTm hqTm
  rw [lTm] at hqTm
  obtain ⟨paSb, pcSb, hpSb, -⟩ := id hs.rSb
  obtain ⟨qaSb, qcSb, hqSb, -⟩ := id ht.rSb
  have lSb : t.subs.length = s.subs.length := by have := congrArg (fun z => z.subs.length) he; exact this.symm
  have ESb : Hid (EwSb w paSb qaSb s.subs.length) := EwSb.of hs ht he hz hpSb hqSb
  rw [lSb] at hqSb
  obtain ⟨paKp, pcKp, hpKp, -⟩ := id hs.rKp
  obtain ⟨qaKp, qcKp, hqKp, -⟩ := id ht.rKp
  have lKp : t.kept.length = s.kept.length := by have := congrArg (fun z => z.kept.length) he; exact this.symm
  have EKp : Hid (EwKp w paKp qaKp s.kept.length) := EwKp.of hs ht he hz hpKp hqKp
  rw [lKp] at hqKp
  obtain ⟨paLs, pcLs, hpLs, -⟩ := id hs.rLs
  obtain ⟨qaLs, qcLs, hqLs, -⟩ := id ht.rLs
  have lLs : t.listed.length = s.listed.length := by have := congrArg (fun z => z.listed.length) he; simpa [St.e] using this.symm
  have ELs : Hid (EwLs w paLs qaLs s.listed.length) := EwLs.of hs ht he hz hpLs hqLs
  rw [lLs] at hqLs
  obtain ⟨paMs, pcMs, hpMs, -⟩ := id hs.rMs
  obtain ⟨qaMs, qcMs, hqMs, -⟩ := id ht.rMs
  have lMs : t.msgs.length = s.msgs.length := by have := congrArg (fun z => z.msgs.length) he; simpa [St.e] using this.symm
  have EMs : Hid (EwMs w paMs qaMs s.msgs.length) := EwMs.of hs ht he hz hpMs hqMs
  rw [lMs] at hqMs
  have := dSame_core s.pos s.done s.made paDe qaDe pcDe qcDe s.procs.length paIn qaIn pcIn qcIn s.insts.length paTk qaTk pcTk qcTk s.tokens.length paJb qaJb pcJb qcJb s.jobs.length paTm qaTm pcTm qcTm s.timers.length paSb qaSb pcSb qcSb s.subs.length paKp qaKp pcKp qcKp s.kept.length paLs qaLs pcLs qcLs s.listed.length paMs qaMs pcMs qcMs s.msgs.length (by have := hz.nDe; omega) EDe (by have := hz.nIn; omega) EIn (by have := hz.nTk; omega) ETk (by have := hz.nJb; omega) EJb (by have := hz.nTm; omega) ETm (by have := hz.nSb; omega) ESb (by have := hz.nKp; omega) EKp (by have := hz.nLs; omega) ELs (by have := hz.nMs; omega) EMs
  simp only [St.c, e0, e1, e2, hpDe, hqDe, hpIn, hqIn, hpTk, hqTk, hpJb, hqJb, hpTm, hqTm, hpSb, hqSb, hpKp, hqKp, hpLs, hqLs, hpMs, hqMs]
  exact this
end Go.Proofs.YtgklemopmiabcaaGreat.f13

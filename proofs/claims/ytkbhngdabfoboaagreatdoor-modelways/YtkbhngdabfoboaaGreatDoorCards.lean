/-
  DERIVED. GIVEN WITH THE SEED: THE CARDS: each row of YtkbhngdabfoboaaGreatDoorRows.lean that lists a variable, with what it lists TIED to the program's text (the seventh form; the later family's looks); each row that meets fmt, with fmt's text TOLD by the authors' own Lean function (tested against real Go, not proved from fmt's source: count such statements apart). THE CARD IS WHAT COUNTS. Prove the row's statement (the work); the ties are given (YtkbhngdabfoboaaGreatDoorTie.lean); close each card by the builder's one call (the guide's Derived/Test/ToyasCard.lean, 'card_holds'). Laid BY PROGRAM, IN A SANDBOX (cutbox-door.mjs). By AI agents, Wed Nov 11 2026. No macro, syntax, notation, axiom, sorry.
-/
import Derived.Test.YtkbhngdabfoboaaGreatDoorRows
import GoSem.ClaimSeven
namespace Go.Proofs.YtkbhngdabfoboaaGreatDoor
namespace Rows

/-- THE TIED CARD OF 'wherrylaw11.ModelChecks'. -/
def modelChecksCard : Claim7 := { stood := { row := modelChecksRow, standIns := [], harness := (true, "8b056dd8733264891fb09f5831f63a7a2eafbda2c7eae360e50513f72bc19276"), looks := true }, kinds := [], alts := [], laidByText := true, laidKinds := [.data, .data, .data, .sentinel, .sentinel, .data, .data], laidTests := true, laidLooks := .later }
def ModelChecksCardSaid : Prop := Claim7.holds Tryz.pinned (.plain (OpenSpec.ofChange modelChecksSpec)) modelChecksCard

/-- THE TIED CARD OF 'wherrylaw11.ModelTakes'. -/
def modelTakesCard : Claim7 := { stood := { row := modelTakesRow, standIns := [], harness := (true, "8b056dd8733264891fb09f5831f63a7a2eafbda2c7eae360e50513f72bc19276"), looks := true }, kinds := [], alts := [], laidByText := true, laidKinds := [.data, .data, .data, .sentinel, .sentinel, .data, .data], laidTests := true, laidLooks := .later }
def ModelTakesCardSaid : Prop := Claim7.holds Tryz.pinned (.plain (OpenSpec.ofChange modelTakesSpec)) modelTakesCard

/-- THE TIED CARD OF 'wherrylaw11.ModelAsks'. -/
def modelAsksCard : Claim7 := { stood := { row := modelAsksRow, standIns := [], harness := (true, "8b056dd8733264891fb09f5831f63a7a2eafbda2c7eae360e50513f72bc19276"), looks := true }, kinds := [], alts := [], laidByText := true, laidKinds := [.data, .data, .data, .sentinel, .sentinel, .data, .data], laidTests := true, laidLooks := .later }
def ModelAsksCardSaid : Prop := Claim7.holds Tryz.pinned (.plain (OpenSpec.ofChange modelAsksSpec)) modelAsksCard

/-- THE TIED CARD OF 'wherrylaw11.ModelBack'. -/
def modelBackCard : Claim7 := { stood := { row := modelBackRow, standIns := [], harness := (true, "8b056dd8733264891fb09f5831f63a7a2eafbda2c7eae360e50513f72bc19276"), looks := true }, kinds := [], alts := [], laidByText := true, laidKinds := [.data, .data, .data, .sentinel, .sentinel, .data, .data], laidTests := true, laidLooks := .later }
def ModelBackCardSaid : Prop := Claim7.holds Tryz.pinned (.plain (OpenSpec.ofChange modelBackSpec)) modelBackCard

/-- THE TIED CARD OF 'wherrylaw11.ModelWays'. -/
def modelWaysCard : Claim7 := { stood := { row := modelWaysRow, standIns := [], harness := (true, "8b056dd8733264891fb09f5831f63a7a2eafbda2c7eae360e50513f72bc19276"), looks := true }, kinds := [], alts := [], laidByText := true, laidKinds := [.data, .data, .data, .sentinel, .sentinel, .data, .data], laidTests := true, laidLooks := .later }
def ModelWaysCardSaid : Prop := Claim7.holds Tryz.pinned (.plain (OpenSpec.ofChange modelWaysSpec)) modelWaysCard

/-- THE TIED CARD OF 'wherrylaw11.ModelNames'. -/
def modelNamesCard : Claim7 := { stood := { row := modelNamesRow, standIns := [], harness := (true, "8b056dd8733264891fb09f5831f63a7a2eafbda2c7eae360e50513f72bc19276"), looks := true }, kinds := [], alts := [], laidByText := true, laidKinds := [.data, .data, .data, .sentinel, .sentinel, .data, .data], laidTests := true, laidLooks := .later }
def ModelNamesCardSaid : Prop := Claim7.holds Tryz.pinned (.plain (OpenSpec.ofChange modelNamesSpec)) modelNamesCard

/-- THE SECOND FORM's CARD OF 'wherrylaw11.ModelChecks'. -/
def modelChecksUptoCard : Claim7 := { stood := { row := modelChecksUptoRow, standIns := [], harness := (true, "8b056dd8733264891fb09f5831f63a7a2eafbda2c7eae360e50513f72bc19276"), looks := true }, kinds := [], alts := [], laidByText := true, laidKinds := [.data, .data, .data, .sentinel, .sentinel, .data, .data], laidTests := true, laidLooks := .later }
def ModelChecksUptoCardSaid : Prop := Claim7.holds Tryz.pinned (.plain (OpenSpec.upto modelChecksSpec)) modelChecksUptoCard

/-- THE SECOND FORM's CARD OF 'wherrylaw11.ModelTakes'. -/
def modelTakesUptoCard : Claim7 := { stood := { row := modelTakesUptoRow, standIns := [], harness := (true, "8b056dd8733264891fb09f5831f63a7a2eafbda2c7eae360e50513f72bc19276"), looks := true }, kinds := [], alts := [], laidByText := true, laidKinds := [.data, .data, .data, .sentinel, .sentinel, .data, .data], laidTests := true, laidLooks := .later }
def ModelTakesUptoCardSaid : Prop := Claim7.holds Tryz.pinned (.plain (OpenSpec.upto modelTakesSpec)) modelTakesUptoCard

/-- THE SECOND FORM's CARD OF 'wherrylaw11.ModelAsks'. -/
def modelAsksUptoCard : Claim7 := { stood := { row := modelAsksUptoRow, standIns := [], harness := (true, "8b056dd8733264891fb09f5831f63a7a2eafbda2c7eae360e50513f72bc19276"), looks := true }, kinds := [], alts := [], laidByText := true, laidKinds := [.data, .data, .data, .sentinel, .sentinel, .data, .data], laidTests := true, laidLooks := .later }
def ModelAsksUptoCardSaid : Prop := Claim7.holds Tryz.pinned (.plain (OpenSpec.upto modelAsksSpec)) modelAsksUptoCard

/-- THE SECOND FORM's CARD OF 'wherrylaw11.ModelBack'. -/
def modelBackUptoCard : Claim7 := { stood := { row := modelBackUptoRow, standIns := [], harness := (true, "8b056dd8733264891fb09f5831f63a7a2eafbda2c7eae360e50513f72bc19276"), looks := true }, kinds := [], alts := [], laidByText := true, laidKinds := [.data, .data, .data, .sentinel, .sentinel, .data, .data], laidTests := true, laidLooks := .later }
def ModelBackUptoCardSaid : Prop := Claim7.holds Tryz.pinned (.plain (OpenSpec.upto modelBackSpec)) modelBackUptoCard

/-- THE SECOND FORM's CARD OF 'wherrylaw11.ModelWays'. -/
def modelWaysUptoCard : Claim7 := { stood := { row := modelWaysUptoRow, standIns := [], harness := (true, "8b056dd8733264891fb09f5831f63a7a2eafbda2c7eae360e50513f72bc19276"), looks := true }, kinds := [], alts := [], laidByText := true, laidKinds := [.data, .data, .data, .sentinel, .sentinel, .data, .data], laidTests := true, laidLooks := .later }
def ModelWaysUptoCardSaid : Prop := Claim7.holds Tryz.pinned (.plain (OpenSpec.upto modelWaysSpec)) modelWaysUptoCard

/-- THE SECOND FORM's CARD OF 'wherrylaw11.ModelNames'. -/
def modelNamesUptoCard : Claim7 := { stood := { row := modelNamesUptoRow, standIns := [], harness := (true, "8b056dd8733264891fb09f5831f63a7a2eafbda2c7eae360e50513f72bc19276"), looks := true }, kinds := [], alts := [], laidByText := true, laidKinds := [.data, .data, .data, .sentinel, .sentinel, .data, .data], laidTests := true, laidLooks := .later }
def ModelNamesUptoCardSaid : Prop := Claim7.holds Tryz.pinned (.plain (OpenSpec.upto modelNamesSpec)) modelNamesUptoCard
end Rows
end Go.Proofs.YtkbhngdabfoboaaGreatDoor

/-
  DERIVED. GIVEN WITH THE SEED: THE CARDS: each row of YtkbhngdabfoboabGreatDoorRows.lean that lists a variable, with what it lists TIED to the program's text (the seventh form; the later family's looks); each row that meets fmt, with fmt's text TOLD by the authors' own Lean function (tested against real Go, not proved from fmt's source: count such statements apart). THE CARD IS WHAT COUNTS. Prove the row's statement (the work); the ties are given (YtkbhngdabfoboabGreatDoorTie.lean); close each card by the builder's one call (the guide's Derived/Test/ToyasCard.lean, 'card_holds'). Laid BY PROGRAM, IN A SANDBOX (cutbox-door.mjs). By AI agents, Wed Nov 11 2026. No macro, syntax, notation, axiom, sorry.
-/
import Derived.Test.YtkbhngdabfoboabGreatDoorRows
import GoSem.ClaimSeven
namespace Go.Proofs.YtkbhngdabfoboabGreatDoor
namespace Rows

/-- THE TIED CARD OF 'wherrylaw11.ModelFlows'. -/
def modelFlowsCard : Claim7 := { stood := { row := modelFlowsRow, standIns := [], harness := (true, "7cebccb23d5a0cd2de0b1c73e437254e192eeeb3179befff39b1da535c5a9ce7"), looks := true }, kinds := [], alts := [], laidByText := true, laidKinds := [.data, .data, .data, .sentinel, .sentinel, .data, .data], laidTests := true, laidLooks := .later }
def ModelFlowsCardSaid : Prop := Claim7.holds Tryz.pinned (.plain (OpenSpec.ofChange modelFlowsSpec)) modelFlowsCard

/-- THE TIED CARD OF 'wherrylaw11.ModelRounds'. -/
def modelRoundsCard : Claim7 := { stood := { row := modelRoundsRow, standIns := [], harness := (true, "7cebccb23d5a0cd2de0b1c73e437254e192eeeb3179befff39b1da535c5a9ce7"), looks := true }, kinds := [], alts := [], laidByText := true, laidKinds := [.data, .data, .data, .sentinel, .sentinel, .data, .data], laidTests := true, laidLooks := .later }
def ModelRoundsCardSaid : Prop := Claim7.holds Tryz.pinned (.plain (OpenSpec.ofChange modelRoundsSpec)) modelRoundsCard

/-- THE SECOND FORM's CARD OF 'wherrylaw11.ModelFlows'. -/
def modelFlowsUptoCard : Claim7 := { stood := { row := modelFlowsUptoRow, standIns := [], harness := (true, "7cebccb23d5a0cd2de0b1c73e437254e192eeeb3179befff39b1da535c5a9ce7"), looks := true }, kinds := [], alts := [], laidByText := true, laidKinds := [.data, .data, .data, .sentinel, .sentinel, .data, .data], laidTests := true, laidLooks := .later }
def ModelFlowsUptoCardSaid : Prop := Claim7.holds Tryz.pinned (.plain (OpenSpec.upto modelFlowsSpec)) modelFlowsUptoCard

/-- THE SECOND FORM's CARD OF 'wherrylaw11.ModelRounds'. -/
def modelRoundsUptoCard : Claim7 := { stood := { row := modelRoundsUptoRow, standIns := [], harness := (true, "7cebccb23d5a0cd2de0b1c73e437254e192eeeb3179befff39b1da535c5a9ce7"), looks := true }, kinds := [], alts := [], laidByText := true, laidKinds := [.data, .data, .data, .sentinel, .sentinel, .data, .data], laidTests := true, laidLooks := .later }
def ModelRoundsUptoCardSaid : Prop := Claim7.holds Tryz.pinned (.plain (OpenSpec.upto modelRoundsSpec)) modelRoundsUptoCard
end Rows
end Go.Proofs.YtkbhngdabfoboabGreatDoor

/-
  DERIVED. GIVEN WITH THE SEED: THE CARDS: each row of YtlmdoiagjepmbaaGreatDoorRows.lean that lists a variable, with what it lists TIED to the program's text (the seventh form; the later family's looks); each row that meets fmt, with fmt's text TOLD by the authors' own Lean function (tested against real Go, not proved from fmt's source: count such statements apart). THE CARD IS WHAT COUNTS. Prove the row's statement (the work); the ties are given (YtlmdoiagjepmbaaGreatDoorTie.lean); close each card by the builder's one call (the guide's Derived/Test/ToyasCard.lean, 'card_holds'). Laid BY PROGRAM, IN A SANDBOX (cutbox-door.mjs). By AI agents, Wed Nov 11 2026. No macro, syntax, notation, axiom, sorry.
-/
import Derived.Test.YtlmdoiagjepmbaaGreatDoorRows
import GoSem.ClaimSeven
namespace Go.Proofs.YtlmdoiagjepmbaaGreatDoor
namespace Rows

/-- THE TIED CARD OF 'wherrylaw11.ModelNames'. -/
def modelNamesCard : Claim7 := { stood := { row := modelNamesRow, standIns := [], harness := (true, "6b3e2f32df09579b23b1571f5a803df6437aa8e6256f6e90d5367955ddb691b1"), looks := true }, kinds := [], alts := [], laidByText := true, laidKinds := [.data, .data, .data, .sentinel, .sentinel, .data, .data], laidTests := true, laidLooks := .later }
def ModelNamesCardSaid : Prop := Claim7.holds Tryz.pinned (.plain (OpenSpec.ofChange modelNamesSpec)) modelNamesCard

/-- THE TIED CARD OF 'wherrylaw11.ModelRounds'. -/
def modelRoundsCard : Claim7 := { stood := { row := modelRoundsRow, standIns := [], harness := (true, "6b3e2f32df09579b23b1571f5a803df6437aa8e6256f6e90d5367955ddb691b1"), looks := true }, kinds := [], alts := [], laidByText := true, laidKinds := [.data, .data, .data, .sentinel, .sentinel, .data, .data], laidTests := true, laidLooks := .later }
def ModelRoundsCardSaid : Prop := Claim7.holds Tryz.pinned (.plain (OpenSpec.ofChange modelRoundsSpec)) modelRoundsCard

/-- THE SECOND FORM's CARD OF 'wherrylaw11.ModelNames'. -/
def modelNamesUptoCard : Claim7 := { stood := { row := modelNamesUptoRow, standIns := [], harness := (true, "6b3e2f32df09579b23b1571f5a803df6437aa8e6256f6e90d5367955ddb691b1"), looks := true }, kinds := [], alts := [], laidByText := true, laidKinds := [.data, .data, .data, .sentinel, .sentinel, .data, .data], laidTests := true, laidLooks := .later }
def ModelNamesUptoCardSaid : Prop := Claim7.holds Tryz.pinned (.plain (OpenSpec.upto modelNamesSpec)) modelNamesUptoCard

/-- THE SECOND FORM's CARD OF 'wherrylaw11.ModelRounds'. -/
def modelRoundsUptoCard : Claim7 := { stood := { row := modelRoundsUptoRow, standIns := [], harness := (true, "6b3e2f32df09579b23b1571f5a803df6437aa8e6256f6e90d5367955ddb691b1"), looks := true }, kinds := [], alts := [], laidByText := true, laidKinds := [.data, .data, .data, .sentinel, .sentinel, .data, .data], laidTests := true, laidLooks := .later }
def ModelRoundsUptoCardSaid : Prop := Claim7.holds Tryz.pinned (.plain (OpenSpec.upto modelRoundsSpec)) modelRoundsUptoCard
end Rows
end Go.Proofs.YtlmdoiagjepmbaaGreatDoor

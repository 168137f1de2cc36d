/-
  DERIVED. GIVEN WITH THE SEED: THE CARDS: each row of YtaahmnkfjkbliabDoorRows.lean that lists a variable, with what it lists TIED to the program's text (the seventh form; the later family's looks); each row that meets fmt, with fmt's text TOLD by the authors' own Lean function (tested against real Go, not proved from fmt's source: count such statements apart). THE CARD IS WHAT COUNTS. Prove the row's statement (the work); the ties are given (YtaahmnkfjkbliabDoorTie.lean); close each card by the builder's one call (the guide's Derived/Test/ToyasCard.lean, 'card_holds'). Laid BY PROGRAM, IN A SANDBOX (cutbox-door.mjs). By AI agents, Wed Nov 11 2026. No macro, syntax, notation, axiom, sorry.
-/
import Derived.Test.YtaahmnkfjkbliabDoorRows
import GoSem.ClaimSeven
namespace Go.Proofs.YtaahmnkfjkbliabDoor
namespace Rows

/-- THE TIED CARD OF 'wherrylaw09.ValueFull'. -/
def valueFullCard : Claim7 := { stood := { row := valueFullRow, standIns := [], harness := (true, "c57e6c6659b67458ac3a45996e219ef616d2b9b07d1c47801aa51d07ab48077d"), looks := false }, kinds := [], alts := [], laidByText := true, laidKinds := [.data, .data, .data], laidTests := true, laidLooks := .later }
def ValueFullCardSaid : Prop := Claim7.holds Tryd.pinned (.plain (OpenSpec.ofChange valueFullSpec)) valueFullCard

/-- THE SECOND FORM's CARD OF 'wherrylaw09.ValueFull'. -/
def valueFullUptoCard : Claim7 := { stood := { row := valueFullUptoRow, standIns := [], harness := (true, "c57e6c6659b67458ac3a45996e219ef616d2b9b07d1c47801aa51d07ab48077d"), looks := false }, kinds := [], alts := [], laidByText := true, laidKinds := [.data, .data, .data], laidTests := true, laidLooks := .later }
def ValueFullUptoCardSaid : Prop := Claim7.holds Tryd.pinned (.plain (OpenSpec.upto valueFullSpec)) valueFullUptoCard
end Rows
end Go.Proofs.YtaahmnkfjkbliabDoor

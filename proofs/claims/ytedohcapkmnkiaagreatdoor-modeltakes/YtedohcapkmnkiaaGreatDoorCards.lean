/-
  DERIVED. GIVEN WITH THE SEED: THE CARDS: each row of YtedohcapkmnkiaaGreatDoorRows.lean that lists a variable, with what it lists TIED to the program's text (the seventh form; the later family's looks); each row that meets fmt, with fmt's text TOLD by the authors' own Lean function (tested against real Go, not proved from fmt's source: count such statements apart). THE CARD IS WHAT COUNTS. Prove the row's statement (the work); the ties are given (YtedohcapkmnkiaaGreatDoorTie.lean); close each card by the builder's one call (the guide's Derived/Test/ToyasCard.lean, 'card_holds'). Laid BY PROGRAM, IN A SANDBOX (cutbox-door.mjs). By AI agents, Wed Nov 11 2026. No macro, syntax, notation, axiom, sorry.
-/
import Derived.Test.YtedohcapkmnkiaaGreatDoorRows
import GoSem.ClaimSeven
namespace Go.Proofs.YtedohcapkmnkiaaGreatDoor
namespace Rows

/-- THE TIED CARD OF 'wherrylaw11.ModelTakes'. -/
def modelTakesCard : Claim7 := { stood := { row := modelTakesRow, standIns := [], harness := (true, "cdd51340031ad8f748d5084bc13cc5242e6e4e140dccba0eb1cce7ced828675c"), looks := true }, kinds := [], alts := [], laidByText := true, laidKinds := [.data, .data, .data, .sentinel, .sentinel, .data, .data], laidTests := true, laidLooks := .later }
def ModelTakesCardSaid : Prop := Claim7.holds Tryz.pinned (.plain (OpenSpec.ofChange modelTakesSpec)) modelTakesCard

/-- THE SECOND FORM's CARD OF 'wherrylaw11.ModelTakes'. -/
def modelTakesUptoCard : Claim7 := { stood := { row := modelTakesUptoRow, standIns := [], harness := (true, "cdd51340031ad8f748d5084bc13cc5242e6e4e140dccba0eb1cce7ced828675c"), looks := true }, kinds := [], alts := [], laidByText := true, laidKinds := [.data, .data, .data, .sentinel, .sentinel, .data, .data], laidTests := true, laidLooks := .later }
def ModelTakesUptoCardSaid : Prop := Claim7.holds Tryz.pinned (.plain (OpenSpec.upto modelTakesSpec)) modelTakesUptoCard
end Rows
end Go.Proofs.YtedohcapkmnkiaaGreatDoor

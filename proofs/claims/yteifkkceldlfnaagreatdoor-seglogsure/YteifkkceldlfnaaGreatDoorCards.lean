/-
  DERIVED. GIVEN WITH THE SEED: THE CARDS: each row of YteifkkceldlfnaaGreatDoorRows.lean that lists a variable, with what it lists TIED to the program's text (the seventh form; the later family's looks); each row that meets fmt, with fmt's text TOLD by the authors' own Lean function (tested against real Go, not proved from fmt's source: count such statements apart). THE CARD IS WHAT COUNTS. Prove the row's statement (the work); the ties are given (YteifkkceldlfnaaGreatDoorTie.lean); close each card by the builder's one call (the guide's Derived/Test/ToyasCard.lean, 'card_holds'). Laid BY PROGRAM, IN A SANDBOX (cutbox-door.mjs). By AI agents, Wed Nov 11 2026. No macro, syntax, notation, axiom, sorry.
-/
import Derived.Test.YteifkkceldlfnaaGreatDoorRows
import GoSem.ClaimSeven
namespace Go.Proofs.YteifkkceldlfnaaGreatDoor
namespace Rows

/-- THE TIED CARD OF 'wherrylaw06.SeglogPlays'. -/
def seglogPlaysCard : Claim7 := { stood := { row := seglogPlaysRow, standIns := [], harness := (true, "f465d8e3f52d57a53283eeb434ca32860bbaf215ea8d2dc8c2c0644a2c703a96"), looks := true }, kinds := [], alts := [], laidByText := true, laidKinds := [.data, .data, .data, .sentinel, .sentinel], laidTests := true, laidLooks := .later }
def SeglogPlaysCardSaid : Prop := Claim7.holds Tryz.pinned (.plain (OpenSpec.ofChange seglogPlaysSpec)) seglogPlaysCard

/-- THE TIED CARD OF 'wherrylaw06.SeglogOpens'. -/
def seglogOpensCard : Claim7 := { stood := { row := seglogOpensRow, standIns := [], harness := (true, "f465d8e3f52d57a53283eeb434ca32860bbaf215ea8d2dc8c2c0644a2c703a96"), looks := true }, kinds := [], alts := [], laidByText := true, laidKinds := [.data, .data, .data, .sentinel, .sentinel], laidTests := true, laidLooks := .later }
def SeglogOpensCardSaid : Prop := Claim7.holds Tryz.pinned (.plain (OpenSpec.ofChange seglogOpensSpec)) seglogOpensCard

/-- THE TIED CARD OF 'wherrylaw06.SeglogSure'. -/
def seglogSureCard : Claim7 := { stood := { row := seglogSureRow, standIns := [], harness := (true, "f465d8e3f52d57a53283eeb434ca32860bbaf215ea8d2dc8c2c0644a2c703a96"), looks := true }, kinds := [], alts := [], laidByText := true, laidKinds := [.data, .data, .data, .sentinel, .sentinel], laidTests := true, laidLooks := .later }
def SeglogSureCardSaid : Prop := Claim7.holds Tryz.pinned (.plain (OpenSpec.ofChange seglogSureSpec)) seglogSureCard

/-- THE SECOND FORM's CARD OF 'wherrylaw06.SeglogPlays'. -/
def seglogPlaysUptoCard : Claim7 := { stood := { row := seglogPlaysUptoRow, standIns := [], harness := (true, "f465d8e3f52d57a53283eeb434ca32860bbaf215ea8d2dc8c2c0644a2c703a96"), looks := true }, kinds := [], alts := [], laidByText := true, laidKinds := [.data, .data, .data, .sentinel, .sentinel], laidTests := true, laidLooks := .later }
def SeglogPlaysUptoCardSaid : Prop := Claim7.holds Tryz.pinned (.plain (OpenSpec.upto seglogPlaysSpec)) seglogPlaysUptoCard

/-- THE SECOND FORM's CARD OF 'wherrylaw06.SeglogOpens'. -/
def seglogOpensUptoCard : Claim7 := { stood := { row := seglogOpensUptoRow, standIns := [], harness := (true, "f465d8e3f52d57a53283eeb434ca32860bbaf215ea8d2dc8c2c0644a2c703a96"), looks := true }, kinds := [], alts := [], laidByText := true, laidKinds := [.data, .data, .data, .sentinel, .sentinel], laidTests := true, laidLooks := .later }
def SeglogOpensUptoCardSaid : Prop := Claim7.holds Tryz.pinned (.plain (OpenSpec.upto seglogOpensSpec)) seglogOpensUptoCard

/-- THE SECOND FORM's CARD OF 'wherrylaw06.SeglogSure'. -/
def seglogSureUptoCard : Claim7 := { stood := { row := seglogSureUptoRow, standIns := [], harness := (true, "f465d8e3f52d57a53283eeb434ca32860bbaf215ea8d2dc8c2c0644a2c703a96"), looks := true }, kinds := [], alts := [], laidByText := true, laidKinds := [.data, .data, .data, .sentinel, .sentinel], laidTests := true, laidLooks := .later }
def SeglogSureUptoCardSaid : Prop := Claim7.holds Tryz.pinned (.plain (OpenSpec.upto seglogSureSpec)) seglogSureUptoCard
end Rows
end Go.Proofs.YteifkkceldlfnaaGreatDoor

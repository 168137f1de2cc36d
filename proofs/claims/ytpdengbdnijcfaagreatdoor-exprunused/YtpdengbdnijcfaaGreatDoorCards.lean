/-
  DERIVED. GIVEN WITH THE SEED: THE CARDS: each row of YtpdengbdnijcfaaGreatDoorRows.lean that lists a variable, with what it lists TIED to the program's text (the seventh form; the later family's looks); each row that meets fmt, with fmt's text TOLD by the authors' own Lean function (tested against real Go, not proved from fmt's source: count such statements apart). THE CARD IS WHAT COUNTS. Prove the row's statement (the work); the ties are given (YtpdengbdnijcfaaGreatDoorTie.lean); close each card by the builder's one call (the guide's Derived/Test/ToyasCard.lean, 'card_holds'). Laid BY PROGRAM, IN A SANDBOX (cutbox-door.mjs). By AI agents, Wed Nov 11 2026. No macro, syntax, notation, axiom, sorry.
-/
import Derived.Test.YtpdengbdnijcfaaGreatDoorRows
import GoSem.ClaimSeven
namespace Go.Proofs.YtpdengbdnijcfaaGreatDoor
namespace Rows

/-- THE TIED CARD OF 'wherrylaw10.ExprLogic'. -/
def exprLogicCard : Claim7 := { stood := { row := exprLogicRow, standIns := [], harness := (true, "01b6627e36903762cc912256a461ee8df46f73bd94dc15f982ec678df759bca7"), looks := true }, kinds := [], alts := [], laidByText := true, laidKinds := [.data, .data, .data, .sentinel, .sentinel, .data, .data], laidTests := true, laidLooks := .later }
def ExprLogicCardSaid : Prop := Claim7.holds Tryz.pinned (.plain (OpenSpec.ofChange exprLogicSpec)) exprLogicCard

/-- THE TIED CARD OF 'wherrylaw10.ExprCompares'. -/
def exprComparesCard : Claim7 := { stood := { row := exprComparesRow, standIns := [], harness := (true, "01b6627e36903762cc912256a461ee8df46f73bd94dc15f982ec678df759bca7"), looks := true }, kinds := [], alts := [], laidByText := true, laidKinds := [.data, .data, .data, .sentinel, .sentinel, .data, .data], laidTests := true, laidLooks := .later }
def ExprComparesCardSaid : Prop := Claim7.holds Tryz.pinned (.plain (OpenSpec.ofChange exprComparesSpec)) exprComparesCard

/-- THE TIED CARD OF 'wherrylaw10.ExprUnused'. -/
def exprUnusedCard : Claim7 := { stood := { row := exprUnusedRow, standIns := [], harness := (true, "01b6627e36903762cc912256a461ee8df46f73bd94dc15f982ec678df759bca7"), looks := true }, kinds := [], alts := [], laidByText := true, laidKinds := [.data, .data, .data, .sentinel, .sentinel, .data, .data], laidTests := true, laidLooks := .later }
def ExprUnusedCardSaid : Prop := Claim7.holds Tryz.pinned (.plain (OpenSpec.ofChange exprUnusedSpec)) exprUnusedCard

/-- THE TIED CARD OF 'wherrylaw10.ExprBrackets'. -/
def exprBracketsCard : Claim7 := { stood := { row := exprBracketsRow, standIns := [], harness := (true, "01b6627e36903762cc912256a461ee8df46f73bd94dc15f982ec678df759bca7"), looks := true }, kinds := [], alts := [], laidByText := true, laidKinds := [.data, .data, .data, .sentinel, .sentinel, .data, .data], laidTests := true, laidLooks := .later }
def ExprBracketsCardSaid : Prop := Claim7.holds Tryz.pinned (.plain (OpenSpec.ofChange exprBracketsSpec)) exprBracketsCard

/-- THE TIED CARD OF 'wherrylaw10.ExprSound'. -/
def exprSoundCard : Claim7 := { stood := { row := exprSoundRow, standIns := [], harness := (true, "01b6627e36903762cc912256a461ee8df46f73bd94dc15f982ec678df759bca7"), looks := true }, kinds := [], alts := [], laidByText := true, laidKinds := [.data, .data, .data, .sentinel, .sentinel, .data, .data], laidTests := true, laidLooks := .later }
def ExprSoundCardSaid : Prop := Claim7.holds Tryz.pinned (.plain (OpenSpec.ofChange exprSoundSpec)) exprSoundCard

/-- THE TIED CARD OF 'wherrylaw10.ExprBack'. -/
def exprBackCard : Claim7 := { stood := { row := exprBackRow, standIns := [], harness := (true, "01b6627e36903762cc912256a461ee8df46f73bd94dc15f982ec678df759bca7"), looks := true }, kinds := [], alts := [], laidByText := true, laidKinds := [.data, .data, .data, .sentinel, .sentinel, .data, .data], laidTests := true, laidLooks := .later }
def ExprBackCardSaid : Prop := Claim7.holds Tryz.pinned (.plain (OpenSpec.ofChange exprBackSpec)) exprBackCard

/-- THE SECOND FORM's CARD OF 'wherrylaw10.ExprLogic'. -/
def exprLogicUptoCard : Claim7 := { stood := { row := exprLogicUptoRow, standIns := [], harness := (true, "01b6627e36903762cc912256a461ee8df46f73bd94dc15f982ec678df759bca7"), looks := true }, kinds := [], alts := [], laidByText := true, laidKinds := [.data, .data, .data, .sentinel, .sentinel, .data, .data], laidTests := true, laidLooks := .later }
def ExprLogicUptoCardSaid : Prop := Claim7.holds Tryz.pinned (.plain (OpenSpec.upto exprLogicSpec)) exprLogicUptoCard

/-- THE SECOND FORM's CARD OF 'wherrylaw10.ExprCompares'. -/
def exprComparesUptoCard : Claim7 := { stood := { row := exprComparesUptoRow, standIns := [], harness := (true, "01b6627e36903762cc912256a461ee8df46f73bd94dc15f982ec678df759bca7"), looks := true }, kinds := [], alts := [], laidByText := true, laidKinds := [.data, .data, .data, .sentinel, .sentinel, .data, .data], laidTests := true, laidLooks := .later }
def ExprComparesUptoCardSaid : Prop := Claim7.holds Tryz.pinned (.plain (OpenSpec.upto exprComparesSpec)) exprComparesUptoCard

/-- THE SECOND FORM's CARD OF 'wherrylaw10.ExprUnused'. -/
def exprUnusedUptoCard : Claim7 := { stood := { row := exprUnusedUptoRow, standIns := [], harness := (true, "01b6627e36903762cc912256a461ee8df46f73bd94dc15f982ec678df759bca7"), looks := true }, kinds := [], alts := [], laidByText := true, laidKinds := [.data, .data, .data, .sentinel, .sentinel, .data, .data], laidTests := true, laidLooks := .later }
def ExprUnusedUptoCardSaid : Prop := Claim7.holds Tryz.pinned (.plain (OpenSpec.upto exprUnusedSpec)) exprUnusedUptoCard

/-- THE SECOND FORM's CARD OF 'wherrylaw10.ExprBrackets'. -/
def exprBracketsUptoCard : Claim7 := { stood := { row := exprBracketsUptoRow, standIns := [], harness := (true, "01b6627e36903762cc912256a461ee8df46f73bd94dc15f982ec678df759bca7"), looks := true }, kinds := [], alts := [], laidByText := true, laidKinds := [.data, .data, .data, .sentinel, .sentinel, .data, .data], laidTests := true, laidLooks := .later }
def ExprBracketsUptoCardSaid : Prop := Claim7.holds Tryz.pinned (.plain (OpenSpec.upto exprBracketsSpec)) exprBracketsUptoCard

/-- THE SECOND FORM's CARD OF 'wherrylaw10.ExprSound'. -/
def exprSoundUptoCard : Claim7 := { stood := { row := exprSoundUptoRow, standIns := [], harness := (true, "01b6627e36903762cc912256a461ee8df46f73bd94dc15f982ec678df759bca7"), looks := true }, kinds := [], alts := [], laidByText := true, laidKinds := [.data, .data, .data, .sentinel, .sentinel, .data, .data], laidTests := true, laidLooks := .later }
def ExprSoundUptoCardSaid : Prop := Claim7.holds Tryz.pinned (.plain (OpenSpec.upto exprSoundSpec)) exprSoundUptoCard

/-- THE SECOND FORM's CARD OF 'wherrylaw10.ExprBack'. -/
def exprBackUptoCard : Claim7 := { stood := { row := exprBackUptoRow, standIns := [], harness := (true, "01b6627e36903762cc912256a461ee8df46f73bd94dc15f982ec678df759bca7"), looks := true }, kinds := [], alts := [], laidByText := true, laidKinds := [.data, .data, .data, .sentinel, .sentinel, .data, .data], laidTests := true, laidLooks := .later }
def ExprBackUptoCardSaid : Prop := Claim7.holds Tryz.pinned (.plain (OpenSpec.upto exprBackSpec)) exprBackUptoCard
end Rows
end Go.Proofs.YtpdengbdnijcfaaGreatDoor

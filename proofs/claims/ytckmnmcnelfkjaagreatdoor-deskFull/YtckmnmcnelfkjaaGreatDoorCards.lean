/-
  DERIVED. GIVEN WITH THE SEED: THE CARDS: each row of YtckmnmcnelfkjaaGreatDoorRows.lean that lists a variable, with what it lists TIED to the program's text (the seventh form; the later family's looks); each row that meets fmt, with fmt's text TOLD by the authors' own Lean function (tested against real Go, not proved from fmt's source: count such statements apart). THE CARD IS WHAT COUNTS. Prove the row's statement (the work); the ties are given (YtckmnmcnelfkjaaGreatDoorTie.lean); close each card by the builder's one call (the guide's Derived/Test/ToyasCard.lean, 'card_holds'). Laid BY PROGRAM, IN A SANDBOX (cutbox-door.mjs). By AI agents, Wed Nov 11 2026. No macro, syntax, notation, axiom, sorry.
-/
import Derived.Test.YtckmnmcnelfkjaaGreatDoorRows
import GoSem.ClaimSeven
namespace Go.Proofs.YtckmnmcnelfkjaaGreatDoor
namespace Rows

/-- THE TIED CARD OF 'paydesklaw16.DeskRight'. -/
def deskRightCard : Claim7 := { stood := { row := deskRightRow, standIns := [], harness := (true, "405cfbda695adfe15a341fdc657cb394d42882f7ce333e5b6b2bd7815472d084"), looks := false }, kinds := [], alts := [], laidByText := true, laidKinds := [.data, .data], laidTests := true, laidLooks := .later }
def DeskRightCardSaid : Prop := Claim7.holds Tryz.pinned (.plain (OpenSpec.ofChange deskRightSpec)) deskRightCard

/-- THE TIED CARD OF 'paydesklaw16.DeskKeeps'. -/
def deskKeepsCard : Claim7 := { stood := { row := deskKeepsRow, standIns := [], harness := (true, "405cfbda695adfe15a341fdc657cb394d42882f7ce333e5b6b2bd7815472d084"), looks := false }, kinds := [], alts := [], laidByText := true, laidKinds := [.data, .data], laidTests := true, laidLooks := .later }
def DeskKeepsCardSaid : Prop := Claim7.holds Tryz.pinned (.plain (OpenSpec.ofChange deskKeepsSpec)) deskKeepsCard

/-- THE TIED CARD OF 'paydesklaw16.DeskFull'. -/
def deskFullCard : Claim7 := { stood := { row := deskFullRow, standIns := [], harness := (true, "405cfbda695adfe15a341fdc657cb394d42882f7ce333e5b6b2bd7815472d084"), looks := false }, kinds := [], alts := [], laidByText := true, laidKinds := [.data, .data], laidTests := true, laidLooks := .later }
def DeskFullCardSaid : Prop := Claim7.holds Tryz.pinned (.plain (OpenSpec.ofChange deskFullSpec)) deskFullCard

/-- THE SECOND FORM's CARD OF 'paydesklaw16.DeskRight'. -/
def deskRightUptoCard : Claim7 := { stood := { row := deskRightUptoRow, standIns := [], harness := (true, "405cfbda695adfe15a341fdc657cb394d42882f7ce333e5b6b2bd7815472d084"), looks := false }, kinds := [], alts := [], laidByText := true, laidKinds := [.data, .data], laidTests := true, laidLooks := .later }
def DeskRightUptoCardSaid : Prop := Claim7.holds Tryz.pinned (.plain (OpenSpec.upto deskRightSpec)) deskRightUptoCard

/-- THE SECOND FORM's CARD OF 'paydesklaw16.DeskKeeps'. -/
def deskKeepsUptoCard : Claim7 := { stood := { row := deskKeepsUptoRow, standIns := [], harness := (true, "405cfbda695adfe15a341fdc657cb394d42882f7ce333e5b6b2bd7815472d084"), looks := false }, kinds := [], alts := [], laidByText := true, laidKinds := [.data, .data], laidTests := true, laidLooks := .later }
def DeskKeepsUptoCardSaid : Prop := Claim7.holds Tryz.pinned (.plain (OpenSpec.upto deskKeepsSpec)) deskKeepsUptoCard

/-- THE SECOND FORM's CARD OF 'paydesklaw16.DeskFull'. -/
def deskFullUptoCard : Claim7 := { stood := { row := deskFullUptoRow, standIns := [], harness := (true, "405cfbda695adfe15a341fdc657cb394d42882f7ce333e5b6b2bd7815472d084"), looks := false }, kinds := [], alts := [], laidByText := true, laidKinds := [.data, .data], laidTests := true, laidLooks := .later }
def DeskFullUptoCardSaid : Prop := Claim7.holds Tryz.pinned (.plain (OpenSpec.upto deskFullSpec)) deskFullUptoCard
end Rows
end Go.Proofs.YtckmnmcnelfkjaaGreatDoor

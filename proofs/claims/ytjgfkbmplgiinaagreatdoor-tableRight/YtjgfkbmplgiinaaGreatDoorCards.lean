/-
  DERIVED. GIVEN WITH THE SEED: THE CARDS: each row of YtjgfkbmplgiinaaGreatDoorRows.lean that lists a variable, with what it lists TIED to the program's text (the seventh form; the later family's looks); each row that meets fmt, with fmt's text TOLD by the authors' own Lean function (tested against real Go, not proved from fmt's source: count such statements apart). THE CARD IS WHAT COUNTS. Prove the row's statement (the work); the ties are given (YtjgfkbmplgiinaaGreatDoorTie.lean); close each card by the builder's one call (the guide's Derived/Test/ToyasCard.lean, 'card_holds'). Laid BY PROGRAM, IN A SANDBOX (cutbox-door.mjs). By AI agents, Wed Nov 11 2026. No macro, syntax, notation, axiom, sorry.
-/
import Derived.Test.YtjgfkbmplgiinaaGreatDoorRows
import GoSem.ClaimSeven
namespace Go.Proofs.YtjgfkbmplgiinaaGreatDoor
namespace Rows

/-- THE TIED CARD OF 'paydesklaw11.TableRight'. -/
def tableRightCard : Claim7 := { stood := { row := tableRightRow, standIns := [], harness := (true, "75e7fb3ad3a39f80147da2aa453a2ac81bd1dd18656936ffc5594c3c0ad5e839"), looks := false }, kinds := [], alts := [], laidByText := true, laidKinds := [.data], laidTests := true, laidLooks := .later }
def TableRightCardSaid : Prop := Claim7.holds Tryz.pinned (.plain (OpenSpec.ofChange tableRightSpec)) tableRightCard

/-- THE SECOND FORM's CARD OF 'paydesklaw11.TableRight'. -/
def tableRightUptoCard : Claim7 := { stood := { row := tableRightUptoRow, standIns := [], harness := (true, "75e7fb3ad3a39f80147da2aa453a2ac81bd1dd18656936ffc5594c3c0ad5e839"), looks := false }, kinds := [], alts := [], laidByText := true, laidKinds := [.data], laidTests := true, laidLooks := .later }
def TableRightUptoCardSaid : Prop := Claim7.holds Tryz.pinned (.plain (OpenSpec.upto tableRightSpec)) tableRightUptoCard
end Rows
end Go.Proofs.YtjgfkbmplgiinaaGreatDoor

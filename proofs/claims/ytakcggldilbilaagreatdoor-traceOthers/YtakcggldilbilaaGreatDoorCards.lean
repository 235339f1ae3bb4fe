/-
  DERIVED. GIVEN WITH THE SEED: THE CARDS: each row of YtakcggldilbilaaGreatDoorRows.lean that lists a variable, with what it lists TIED to the program's text (the seventh form; the later family's looks); each row that meets fmt, with fmt's text TOLD by the authors' own Lean function (tested against real Go, not proved from fmt's source: count such statements apart). THE CARD IS WHAT COUNTS. Prove the row's statement (the work); the ties are given (YtakcggldilbilaaGreatDoorTie.lean); close each card by the builder's one call (the guide's Derived/Test/ToyasCard.lean, 'card_holds'). Laid BY PROGRAM, IN A SANDBOX (cutbox-door.mjs). By AI agents, Wed Nov 11 2026. No macro, syntax, notation, axiom, sorry.
-/
import Derived.Test.YtakcggldilbilaaGreatDoorRows
import GoSem.ClaimSeven
namespace Go.Proofs.YtakcggldilbilaaGreatDoor
namespace Rows

/-- THE TIED CARD OF 'paydesklaw14.LineRight'. -/
def lineRightCard : Claim7 := { stood := { row := lineRightRow, standIns := [], harness := (true, "6f0f3357f88b1d4df29a4da7c3d1656b3860e53e437ffb203e9206a4a6d36724"), looks := false }, kinds := [], alts := [], laidByText := true, laidKinds := [.data, .data, .data, .data, .data], laidTests := true, laidLooks := .later }
def LineRightCardSaid : Prop := Claim7.holds Tryz.pinned (.plain (OpenSpec.ofChange lineRightSpec)) lineRightCard

/-- THE TIED CARD OF 'paydesklaw14.LineParts'. -/
def linePartsCard : Claim7 := { stood := { row := linePartsRow, standIns := [], harness := (true, "6f0f3357f88b1d4df29a4da7c3d1656b3860e53e437ffb203e9206a4a6d36724"), looks := false }, kinds := [], alts := [], laidByText := true, laidKinds := [.data, .data, .data, .data, .data], laidTests := true, laidLooks := .later }
def LinePartsCardSaid : Prop := Claim7.holds Tryz.pinned (.plain (OpenSpec.ofChange linePartsSpec)) linePartsCard

/-- THE TIED CARD OF 'paydesklaw14.LineEvents'. -/
def lineEventsCard : Claim7 := { stood := { row := lineEventsRow, standIns := [], harness := (true, "6f0f3357f88b1d4df29a4da7c3d1656b3860e53e437ffb203e9206a4a6d36724"), looks := false }, kinds := [], alts := [], laidByText := true, laidKinds := [.data, .data, .data, .data, .data], laidTests := true, laidLooks := .later }
def LineEventsCardSaid : Prop := Claim7.holds Tryz.pinned (.plain (OpenSpec.ofChange lineEventsSpec)) lineEventsCard

/-- THE TIED CARD OF 'paydesklaw17.PostRight'. -/
def postRightCard : Claim7 := { stood := { row := postRightRow, standIns := [], harness := (true, "6f0f3357f88b1d4df29a4da7c3d1656b3860e53e437ffb203e9206a4a6d36724"), looks := false }, kinds := [], alts := [], laidByText := true, laidKinds := [.data, .data, .data, .data, .data], laidTests := true, laidLooks := .later }
def PostRightCardSaid : Prop := Claim7.holds Tryz.pinned (.plain (OpenSpec.ofChange postRightSpec)) postRightCard

/-- THE TIED CARD OF 'paydesklaw17.PostBack'. -/
def postBackCard : Claim7 := { stood := { row := postBackRow, standIns := [], harness := (true, "6f0f3357f88b1d4df29a4da7c3d1656b3860e53e437ffb203e9206a4a6d36724"), looks := false }, kinds := [], alts := [], laidByText := true, laidKinds := [.data, .data, .data, .data, .data], laidTests := true, laidLooks := .later }
def PostBackCardSaid : Prop := Claim7.holds Tryz.pinned (.plain (OpenSpec.ofChange postBackSpec)) postBackCard

/-- THE TIED CARD OF 'paydesklaw21.TraceOthers'. -/
def traceOthersCard : Claim7 := { stood := { row := traceOthersRow, standIns := [], harness := (true, "6f0f3357f88b1d4df29a4da7c3d1656b3860e53e437ffb203e9206a4a6d36724"), looks := false }, kinds := [], alts := [], laidByText := true, laidKinds := [.data, .data, .data, .data, .data], laidTests := true, laidLooks := .later }
def TraceOthersCardSaid : Prop := Claim7.holds Tryz.pinned (.plain (OpenSpec.ofChange traceOthersSpec)) traceOthersCard

/-- THE SECOND FORM's CARD OF 'paydesklaw14.LineRight'. -/
def lineRightUptoCard : Claim7 := { stood := { row := lineRightUptoRow, standIns := [], harness := (true, "6f0f3357f88b1d4df29a4da7c3d1656b3860e53e437ffb203e9206a4a6d36724"), looks := false }, kinds := [], alts := [], laidByText := true, laidKinds := [.data, .data, .data, .data, .data], laidTests := true, laidLooks := .later }
def LineRightUptoCardSaid : Prop := Claim7.holds Tryz.pinned (.plain (OpenSpec.upto lineRightSpec)) lineRightUptoCard

/-- THE SECOND FORM's CARD OF 'paydesklaw14.LineParts'. -/
def linePartsUptoCard : Claim7 := { stood := { row := linePartsUptoRow, standIns := [], harness := (true, "6f0f3357f88b1d4df29a4da7c3d1656b3860e53e437ffb203e9206a4a6d36724"), looks := false }, kinds := [], alts := [], laidByText := true, laidKinds := [.data, .data, .data, .data, .data], laidTests := true, laidLooks := .later }
def LinePartsUptoCardSaid : Prop := Claim7.holds Tryz.pinned (.plain (OpenSpec.upto linePartsSpec)) linePartsUptoCard

/-- THE SECOND FORM's CARD OF 'paydesklaw14.LineEvents'. -/
def lineEventsUptoCard : Claim7 := { stood := { row := lineEventsUptoRow, standIns := [], harness := (true, "6f0f3357f88b1d4df29a4da7c3d1656b3860e53e437ffb203e9206a4a6d36724"), looks := false }, kinds := [], alts := [], laidByText := true, laidKinds := [.data, .data, .data, .data, .data], laidTests := true, laidLooks := .later }
def LineEventsUptoCardSaid : Prop := Claim7.holds Tryz.pinned (.plain (OpenSpec.upto lineEventsSpec)) lineEventsUptoCard

/-- THE SECOND FORM's CARD OF 'paydesklaw17.PostRight'. -/
def postRightUptoCard : Claim7 := { stood := { row := postRightUptoRow, standIns := [], harness := (true, "6f0f3357f88b1d4df29a4da7c3d1656b3860e53e437ffb203e9206a4a6d36724"), looks := false }, kinds := [], alts := [], laidByText := true, laidKinds := [.data, .data, .data, .data, .data], laidTests := true, laidLooks := .later }
def PostRightUptoCardSaid : Prop := Claim7.holds Tryz.pinned (.plain (OpenSpec.upto postRightSpec)) postRightUptoCard

/-- THE SECOND FORM's CARD OF 'paydesklaw17.PostBack'. -/
def postBackUptoCard : Claim7 := { stood := { row := postBackUptoRow, standIns := [], harness := (true, "6f0f3357f88b1d4df29a4da7c3d1656b3860e53e437ffb203e9206a4a6d36724"), looks := false }, kinds := [], alts := [], laidByText := true, laidKinds := [.data, .data, .data, .data, .data], laidTests := true, laidLooks := .later }
def PostBackUptoCardSaid : Prop := Claim7.holds Tryz.pinned (.plain (OpenSpec.upto postBackSpec)) postBackUptoCard

/-- THE SECOND FORM's CARD OF 'paydesklaw21.TraceOthers'. -/
def traceOthersUptoCard : Claim7 := { stood := { row := traceOthersUptoRow, standIns := [], harness := (true, "6f0f3357f88b1d4df29a4da7c3d1656b3860e53e437ffb203e9206a4a6d36724"), looks := false }, kinds := [], alts := [], laidByText := true, laidKinds := [.data, .data, .data, .data, .data], laidTests := true, laidLooks := .later }
def TraceOthersUptoCardSaid : Prop := Claim7.holds Tryz.pinned (.plain (OpenSpec.upto traceOthersSpec)) traceOthersUptoCard
end Rows
end Go.Proofs.YtakcggldilbilaaGreatDoor

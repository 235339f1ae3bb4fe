/-
  DERIVED. GIVEN WITH THE SEED: THE CARDS: each row of YtdipfibiajkedaaDoorRows.lean that lists a variable, with what it lists TIED to the program's text (the seventh form; the later family's looks); each row that meets fmt, with fmt's text TOLD by the authors' own Lean function (tested against real Go, not proved from fmt's source: count such statements apart). THE CARD IS WHAT COUNTS. Prove the row's statement (the work); the ties are given (YtdipfibiajkedaaDoorTie.lean); close each card by the builder's one call (the guide's Derived/Test/ToyasCard.lean, 'card_holds'). Laid BY PROGRAM, IN A SANDBOX (cutbox-door.mjs). By AI agents, Wed Nov 11 2026. No macro, syntax, notation, axiom, sorry.
-/
import Derived.Test.YtdipfibiajkedaaDoorRows
import GoSem.ClaimSeven
namespace Go.Proofs.YtdipfibiajkedaaDoor
namespace Rows

/-- THE TIED CARD OF 'paydesklaw01.DigitRight'. -/
def digitRightCard : Claim7 := { stood := { row := digitRightRow, standIns := [], harness := (true, "6a0f2be263c478f79970e9f99cbd7efb189532bc802df46a32b19aab103c7f93"), looks := false }, kinds := [], alts := [], laidByText := true, laidKinds := [.data, .data, .data], laidTests := true, laidLooks := .later }
def DigitRightCardSaid : Prop := Claim7.holds Tryd.pinned (.plain (OpenSpec.ofChange digitRightSpec)) digitRightCard

/-- THE TIED CARD OF 'paydesklaw01.DigitBack'. -/
def digitBackCard : Claim7 := { stood := { row := digitBackRow, standIns := [], harness := (true, "6a0f2be263c478f79970e9f99cbd7efb189532bc802df46a32b19aab103c7f93"), looks := false }, kinds := [], alts := [], laidByText := true, laidKinds := [.data, .data, .data], laidTests := true, laidLooks := .later }
def DigitBackCardSaid : Prop := Claim7.holds Tryd.pinned (.plain (OpenSpec.ofChange digitBackSpec)) digitBackCard

/-- THE TIED CARD OF 'paydesklaw01.DigitFine'. -/
def digitFineCard : Claim7 := { stood := { row := digitFineRow, standIns := [], harness := (true, "6a0f2be263c478f79970e9f99cbd7efb189532bc802df46a32b19aab103c7f93"), looks := false }, kinds := [], alts := [], laidByText := true, laidKinds := [.data, .data, .data], laidTests := true, laidLooks := .later }
def DigitFineCardSaid : Prop := Claim7.holds Tryd.pinned (.plain (OpenSpec.ofChange digitFineSpec)) digitFineCard

/-- THE TIED CARD OF 'paydesklaw03.FieldRight'. -/
def fieldRightCard : Claim7 := { stood := { row := fieldRightRow, standIns := [], harness := (true, "6a0f2be263c478f79970e9f99cbd7efb189532bc802df46a32b19aab103c7f93"), looks := false }, kinds := [], alts := [], laidByText := true, laidKinds := [.data, .data, .data, .data], laidTests := true, laidLooks := .later }
def FieldRightCardSaid : Prop := Claim7.holds Tryd.pinned (.plain (OpenSpec.ofChange fieldRightSpec)) fieldRightCard

/-- THE TIED CARD OF 'paydesklaw03.FieldBack'. -/
def fieldBackCard : Claim7 := { stood := { row := fieldBackRow, standIns := [], harness := (true, "6a0f2be263c478f79970e9f99cbd7efb189532bc802df46a32b19aab103c7f93"), looks := false }, kinds := [], alts := [], laidByText := true, laidKinds := [.data, .data, .data, .data], laidTests := true, laidLooks := .later }
def FieldBackCardSaid : Prop := Claim7.holds Tryd.pinned (.plain (OpenSpec.ofChange fieldBackSpec)) fieldBackCard

/-- THE TIED CARD OF 'paydesklaw03.FieldKnown'. -/
def fieldKnownCard : Claim7 := { stood := { row := fieldKnownRow, standIns := [], harness := (true, "6a0f2be263c478f79970e9f99cbd7efb189532bc802df46a32b19aab103c7f93"), looks := false }, kinds := [], alts := [], laidByText := true, laidKinds := [.data, .data, .data, .data], laidTests := true, laidLooks := .later }
def FieldKnownCardSaid : Prop := Claim7.holds Tryd.pinned (.plain (OpenSpec.ofChange fieldKnownSpec)) fieldKnownCard

/-- THE TIED CARD OF 'paydesklaw07.KeyShards'. -/
def keyShardsCard : Claim7 := { stood := { row := keyShardsRow, standIns := [], harness := (true, "6a0f2be263c478f79970e9f99cbd7efb189532bc802df46a32b19aab103c7f93"), looks := false }, kinds := [], alts := [], laidByText := true, laidKinds := [.data, .data], laidTests := true, laidLooks := .later }
def KeyShardsCardSaid : Prop := Claim7.holds Tryd.pinned (.plain (OpenSpec.ofChange keyShardsSpec)) keyShardsCard

/-- THE SECOND FORM's CARD OF 'paydesklaw01.DigitRight'. -/
def digitRightUptoCard : Claim7 := { stood := { row := digitRightUptoRow, standIns := [], harness := (true, "6a0f2be263c478f79970e9f99cbd7efb189532bc802df46a32b19aab103c7f93"), looks := false }, kinds := [], alts := [], laidByText := true, laidKinds := [.data, .data, .data], laidTests := true, laidLooks := .later }
def DigitRightUptoCardSaid : Prop := Claim7.holds Tryd.pinned (.plain (OpenSpec.upto digitRightSpec)) digitRightUptoCard

/-- THE SECOND FORM's CARD OF 'paydesklaw01.DigitBack'. -/
def digitBackUptoCard : Claim7 := { stood := { row := digitBackUptoRow, standIns := [], harness := (true, "6a0f2be263c478f79970e9f99cbd7efb189532bc802df46a32b19aab103c7f93"), looks := false }, kinds := [], alts := [], laidByText := true, laidKinds := [.data, .data, .data], laidTests := true, laidLooks := .later }
def DigitBackUptoCardSaid : Prop := Claim7.holds Tryd.pinned (.plain (OpenSpec.upto digitBackSpec)) digitBackUptoCard

/-- THE SECOND FORM's CARD OF 'paydesklaw01.DigitFine'. -/
def digitFineUptoCard : Claim7 := { stood := { row := digitFineUptoRow, standIns := [], harness := (true, "6a0f2be263c478f79970e9f99cbd7efb189532bc802df46a32b19aab103c7f93"), looks := false }, kinds := [], alts := [], laidByText := true, laidKinds := [.data, .data, .data], laidTests := true, laidLooks := .later }
def DigitFineUptoCardSaid : Prop := Claim7.holds Tryd.pinned (.plain (OpenSpec.upto digitFineSpec)) digitFineUptoCard

/-- THE SECOND FORM's CARD OF 'paydesklaw03.FieldRight'. -/
def fieldRightUptoCard : Claim7 := { stood := { row := fieldRightUptoRow, standIns := [], harness := (true, "6a0f2be263c478f79970e9f99cbd7efb189532bc802df46a32b19aab103c7f93"), looks := false }, kinds := [], alts := [], laidByText := true, laidKinds := [.data, .data, .data, .data], laidTests := true, laidLooks := .later }
def FieldRightUptoCardSaid : Prop := Claim7.holds Tryd.pinned (.plain (OpenSpec.upto fieldRightSpec)) fieldRightUptoCard

/-- THE SECOND FORM's CARD OF 'paydesklaw03.FieldBack'. -/
def fieldBackUptoCard : Claim7 := { stood := { row := fieldBackUptoRow, standIns := [], harness := (true, "6a0f2be263c478f79970e9f99cbd7efb189532bc802df46a32b19aab103c7f93"), looks := false }, kinds := [], alts := [], laidByText := true, laidKinds := [.data, .data, .data, .data], laidTests := true, laidLooks := .later }
def FieldBackUptoCardSaid : Prop := Claim7.holds Tryd.pinned (.plain (OpenSpec.upto fieldBackSpec)) fieldBackUptoCard

/-- THE SECOND FORM's CARD OF 'paydesklaw03.FieldKnown'. -/
def fieldKnownUptoCard : Claim7 := { stood := { row := fieldKnownUptoRow, standIns := [], harness := (true, "6a0f2be263c478f79970e9f99cbd7efb189532bc802df46a32b19aab103c7f93"), looks := false }, kinds := [], alts := [], laidByText := true, laidKinds := [.data, .data, .data, .data], laidTests := true, laidLooks := .later }
def FieldKnownUptoCardSaid : Prop := Claim7.holds Tryd.pinned (.plain (OpenSpec.upto fieldKnownSpec)) fieldKnownUptoCard

/-- THE SECOND FORM's CARD OF 'paydesklaw07.KeyShards'. -/
def keyShardsUptoCard : Claim7 := { stood := { row := keyShardsUptoRow, standIns := [], harness := (true, "6a0f2be263c478f79970e9f99cbd7efb189532bc802df46a32b19aab103c7f93"), looks := false }, kinds := [], alts := [], laidByText := true, laidKinds := [.data, .data], laidTests := true, laidLooks := .later }
def KeyShardsUptoCardSaid : Prop := Claim7.holds Tryd.pinned (.plain (OpenSpec.upto keyShardsSpec)) keyShardsUptoCard
end Rows
end Go.Proofs.YtdipfibiajkedaaDoor

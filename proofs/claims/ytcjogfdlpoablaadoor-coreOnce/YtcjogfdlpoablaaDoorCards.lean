/-
  DERIVED. GIVEN WITH THE SEED: THE CARDS: each row of YtcjogfdlpoablaaDoorRows.lean that lists a variable, with what it lists TIED to the program's text (the seventh form; the later family's looks); each row that meets fmt, with fmt's text TOLD by the authors' own Lean function (tested against real Go, not proved from fmt's source: count such statements apart). THE CARD IS WHAT COUNTS. Prove the row's statement (the work); the ties are given (YtcjogfdlpoablaaDoorTie.lean); close each card by the builder's one call (the guide's Derived/Test/ToyasCard.lean, 'card_holds'). Laid BY PROGRAM, IN A SANDBOX (cutbox-door.mjs). By AI agents, Wed Nov 11 2026. No macro, syntax, notation, axiom, sorry.
-/
import Derived.Test.YtcjogfdlpoablaaDoorRows
import GoSem.ClaimSeven
namespace Go.Proofs.YtcjogfdlpoablaaDoor
namespace Rows

/-- THE TIED CARD OF 'paydesklaw04.MessageRight'. -/
def messageRightCard : Claim7 := { stood := { row := messageRightRow, standIns := [], harness := (true, "b9e6a41e3522b12ad6ecc3fe3e453b671602aa98c03c3738fad5db72d8614bc4"), looks := false }, kinds := [], alts := [], laidByText := true, laidKinds := [.data, .data, .data, .data], laidTests := true, laidLooks := .later }
def MessageRightCardSaid : Prop := Claim7.holds Tryd.pinned (.plain (OpenSpec.ofChange messageRightSpec)) messageRightCard

/-- THE TIED CARD OF 'paydesklaw04.MessageBack'. -/
def messageBackCard : Claim7 := { stood := { row := messageBackRow, standIns := [], harness := (true, "b9e6a41e3522b12ad6ecc3fe3e453b671602aa98c03c3738fad5db72d8614bc4"), looks := false }, kinds := [], alts := [], laidByText := true, laidKinds := [.data, .data, .data, .data], laidTests := true, laidLooks := .later }
def MessageBackCardSaid : Prop := Claim7.holds Tryd.pinned (.plain (OpenSpec.ofChange messageBackSpec)) messageBackCard

/-- THE TIED CARD OF 'paydesklaw04.MessageGets'. -/
def messageGetsCard : Claim7 := { stood := { row := messageGetsRow, standIns := [], harness := (true, "b9e6a41e3522b12ad6ecc3fe3e453b671602aa98c03c3738fad5db72d8614bc4"), looks := false }, kinds := [], alts := [], laidByText := true, laidKinds := [.data, .data, .data, .data], laidTests := true, laidLooks := .later }
def MessageGetsCardSaid : Prop := Claim7.holds Tryd.pinned (.plain (OpenSpec.ofChange messageGetsSpec)) messageGetsCard

/-- THE TIED CARD OF 'paydesklaw06.DealRight'. -/
def dealRightCard : Claim7 := { stood := { row := dealRightRow, standIns := [], harness := (true, "b9e6a41e3522b12ad6ecc3fe3e453b671602aa98c03c3738fad5db72d8614bc4"), looks := false }, kinds := [], alts := [], laidByText := true, laidKinds := [.data, .data, .data, .data, .data], laidTests := true, laidLooks := .later }
def DealRightCardSaid : Prop := Claim7.holds Tryd.pinned (.plain (OpenSpec.ofChange dealRightSpec)) dealRightCard

/-- THE TIED CARD OF 'paydesklaw06.DealBack'. -/
def dealBackCard : Claim7 := { stood := { row := dealBackRow, standIns := [], harness := (true, "b9e6a41e3522b12ad6ecc3fe3e453b671602aa98c03c3738fad5db72d8614bc4"), looks := false }, kinds := [], alts := [], laidByText := true, laidKinds := [.data, .data, .data, .data, .data], laidTests := true, laidLooks := .later }
def DealBackCardSaid : Prop := Claim7.holds Tryd.pinned (.plain (OpenSpec.ofChange dealBackSpec)) dealBackCard

/-- THE TIED CARD OF 'paydesklaw06.DealBytes'. -/
def dealBytesCard : Claim7 := { stood := { row := dealBytesRow, standIns := [], harness := (true, "b9e6a41e3522b12ad6ecc3fe3e453b671602aa98c03c3738fad5db72d8614bc4"), looks := false }, kinds := [], alts := [], laidByText := true, laidKinds := [.data, .data, .data, .data, .data], laidTests := true, laidLooks := .later }
def DealBytesCardSaid : Prop := Claim7.holds Tryd.pinned (.plain (OpenSpec.ofChange dealBytesSpec)) dealBytesCard

/-- THE TIED CARD OF 'paydesklaw10.ShardRight'. -/
def shardRightCard : Claim7 := { stood := { row := shardRightRow, standIns := [], harness := (true, "b9e6a41e3522b12ad6ecc3fe3e453b671602aa98c03c3738fad5db72d8614bc4"), looks := false }, kinds := [], alts := [], laidByText := true, laidKinds := [.data], laidTests := true, laidLooks := .later }
def ShardRightCardSaid : Prop := Claim7.holds Tryd.pinned (.plain (OpenSpec.ofChange shardRightSpec)) shardRightCard

/-- THE TIED CARD OF 'paydesklaw10.ShardSwaps'. -/
def shardSwapsCard : Claim7 := { stood := { row := shardSwapsRow, standIns := [], harness := (true, "b9e6a41e3522b12ad6ecc3fe3e453b671602aa98c03c3738fad5db72d8614bc4"), looks := false }, kinds := [], alts := [], laidByText := true, laidKinds := [.data], laidTests := true, laidLooks := .later }
def ShardSwapsCardSaid : Prop := Claim7.holds Tryd.pinned (.plain (OpenSpec.ofChange shardSwapsSpec)) shardSwapsCard

/-- THE TIED CARD OF 'paydesklaw12.CoreRight'. -/
def coreRightCard : Claim7 := { stood := { row := coreRightRow, standIns := [], harness := (true, "b9e6a41e3522b12ad6ecc3fe3e453b671602aa98c03c3738fad5db72d8614bc4"), looks := false }, kinds := [], alts := [], laidByText := true, laidKinds := [.data, .data], laidTests := true, laidLooks := .later }
def CoreRightCardSaid : Prop := Claim7.holds Tryd.pinned (.plain (OpenSpec.ofChange coreRightSpec)) coreRightCard

/-- THE TIED CARD OF 'paydesklaw12.CoreSteps'. -/
def coreStepsCard : Claim7 := { stood := { row := coreStepsRow, standIns := [], harness := (true, "b9e6a41e3522b12ad6ecc3fe3e453b671602aa98c03c3738fad5db72d8614bc4"), looks := false }, kinds := [], alts := [], laidByText := true, laidKinds := [.data, .data], laidTests := true, laidLooks := .later }
def CoreStepsCardSaid : Prop := Claim7.holds Tryd.pinned (.plain (OpenSpec.ofChange coreStepsSpec)) coreStepsCard

/-- THE TIED CARD OF 'paydesklaw12.CoreOnce'. -/
def coreOnceCard : Claim7 := { stood := { row := coreOnceRow, standIns := [], harness := (true, "b9e6a41e3522b12ad6ecc3fe3e453b671602aa98c03c3738fad5db72d8614bc4"), looks := false }, kinds := [], alts := [], laidByText := true, laidKinds := [.data, .data], laidTests := true, laidLooks := .later }
def CoreOnceCardSaid : Prop := Claim7.holds Tryd.pinned (.plain (OpenSpec.ofChange coreOnceSpec)) coreOnceCard

/-- THE TIED CARD OF 'paydesklaw12.CoreRests'. -/
def coreRestsCard : Claim7 := { stood := { row := coreRestsRow, standIns := [], harness := (true, "b9e6a41e3522b12ad6ecc3fe3e453b671602aa98c03c3738fad5db72d8614bc4"), looks := false }, kinds := [], alts := [], laidByText := true, laidKinds := [.data, .data], laidTests := true, laidLooks := .later }
def CoreRestsCardSaid : Prop := Claim7.holds Tryd.pinned (.plain (OpenSpec.ofChange coreRestsSpec)) coreRestsCard

/-- THE SECOND FORM's CARD OF 'paydesklaw04.MessageRight'. -/
def messageRightUptoCard : Claim7 := { stood := { row := messageRightUptoRow, standIns := [], harness := (true, "b9e6a41e3522b12ad6ecc3fe3e453b671602aa98c03c3738fad5db72d8614bc4"), looks := false }, kinds := [], alts := [], laidByText := true, laidKinds := [.data, .data, .data, .data], laidTests := true, laidLooks := .later }
def MessageRightUptoCardSaid : Prop := Claim7.holds Tryd.pinned (.plain (OpenSpec.upto messageRightSpec)) messageRightUptoCard

/-- THE SECOND FORM's CARD OF 'paydesklaw04.MessageBack'. -/
def messageBackUptoCard : Claim7 := { stood := { row := messageBackUptoRow, standIns := [], harness := (true, "b9e6a41e3522b12ad6ecc3fe3e453b671602aa98c03c3738fad5db72d8614bc4"), looks := false }, kinds := [], alts := [], laidByText := true, laidKinds := [.data, .data, .data, .data], laidTests := true, laidLooks := .later }
def MessageBackUptoCardSaid : Prop := Claim7.holds Tryd.pinned (.plain (OpenSpec.upto messageBackSpec)) messageBackUptoCard

/-- THE SECOND FORM's CARD OF 'paydesklaw04.MessageGets'. -/
def messageGetsUptoCard : Claim7 := { stood := { row := messageGetsUptoRow, standIns := [], harness := (true, "b9e6a41e3522b12ad6ecc3fe3e453b671602aa98c03c3738fad5db72d8614bc4"), looks := false }, kinds := [], alts := [], laidByText := true, laidKinds := [.data, .data, .data, .data], laidTests := true, laidLooks := .later }
def MessageGetsUptoCardSaid : Prop := Claim7.holds Tryd.pinned (.plain (OpenSpec.upto messageGetsSpec)) messageGetsUptoCard

/-- THE SECOND FORM's CARD OF 'paydesklaw06.DealRight'. -/
def dealRightUptoCard : Claim7 := { stood := { row := dealRightUptoRow, standIns := [], harness := (true, "b9e6a41e3522b12ad6ecc3fe3e453b671602aa98c03c3738fad5db72d8614bc4"), looks := false }, kinds := [], alts := [], laidByText := true, laidKinds := [.data, .data, .data, .data, .data], laidTests := true, laidLooks := .later }
def DealRightUptoCardSaid : Prop := Claim7.holds Tryd.pinned (.plain (OpenSpec.upto dealRightSpec)) dealRightUptoCard

/-- THE SECOND FORM's CARD OF 'paydesklaw06.DealBack'. -/
def dealBackUptoCard : Claim7 := { stood := { row := dealBackUptoRow, standIns := [], harness := (true, "b9e6a41e3522b12ad6ecc3fe3e453b671602aa98c03c3738fad5db72d8614bc4"), looks := false }, kinds := [], alts := [], laidByText := true, laidKinds := [.data, .data, .data, .data, .data], laidTests := true, laidLooks := .later }
def DealBackUptoCardSaid : Prop := Claim7.holds Tryd.pinned (.plain (OpenSpec.upto dealBackSpec)) dealBackUptoCard

/-- THE SECOND FORM's CARD OF 'paydesklaw06.DealBytes'. -/
def dealBytesUptoCard : Claim7 := { stood := { row := dealBytesUptoRow, standIns := [], harness := (true, "b9e6a41e3522b12ad6ecc3fe3e453b671602aa98c03c3738fad5db72d8614bc4"), looks := false }, kinds := [], alts := [], laidByText := true, laidKinds := [.data, .data, .data, .data, .data], laidTests := true, laidLooks := .later }
def DealBytesUptoCardSaid : Prop := Claim7.holds Tryd.pinned (.plain (OpenSpec.upto dealBytesSpec)) dealBytesUptoCard

/-- THE SECOND FORM's CARD OF 'paydesklaw10.ShardRight'. -/
def shardRightUptoCard : Claim7 := { stood := { row := shardRightUptoRow, standIns := [], harness := (true, "b9e6a41e3522b12ad6ecc3fe3e453b671602aa98c03c3738fad5db72d8614bc4"), looks := false }, kinds := [], alts := [], laidByText := true, laidKinds := [.data], laidTests := true, laidLooks := .later }
def ShardRightUptoCardSaid : Prop := Claim7.holds Tryd.pinned (.plain (OpenSpec.upto shardRightSpec)) shardRightUptoCard

/-- THE SECOND FORM's CARD OF 'paydesklaw10.ShardSwaps'. -/
def shardSwapsUptoCard : Claim7 := { stood := { row := shardSwapsUptoRow, standIns := [], harness := (true, "b9e6a41e3522b12ad6ecc3fe3e453b671602aa98c03c3738fad5db72d8614bc4"), looks := false }, kinds := [], alts := [], laidByText := true, laidKinds := [.data], laidTests := true, laidLooks := .later }
def ShardSwapsUptoCardSaid : Prop := Claim7.holds Tryd.pinned (.plain (OpenSpec.upto shardSwapsSpec)) shardSwapsUptoCard

/-- THE SECOND FORM's CARD OF 'paydesklaw12.CoreRight'. -/
def coreRightUptoCard : Claim7 := { stood := { row := coreRightUptoRow, standIns := [], harness := (true, "b9e6a41e3522b12ad6ecc3fe3e453b671602aa98c03c3738fad5db72d8614bc4"), looks := false }, kinds := [], alts := [], laidByText := true, laidKinds := [.data, .data], laidTests := true, laidLooks := .later }
def CoreRightUptoCardSaid : Prop := Claim7.holds Tryd.pinned (.plain (OpenSpec.upto coreRightSpec)) coreRightUptoCard

/-- THE SECOND FORM's CARD OF 'paydesklaw12.CoreSteps'. -/
def coreStepsUptoCard : Claim7 := { stood := { row := coreStepsUptoRow, standIns := [], harness := (true, "b9e6a41e3522b12ad6ecc3fe3e453b671602aa98c03c3738fad5db72d8614bc4"), looks := false }, kinds := [], alts := [], laidByText := true, laidKinds := [.data, .data], laidTests := true, laidLooks := .later }
def CoreStepsUptoCardSaid : Prop := Claim7.holds Tryd.pinned (.plain (OpenSpec.upto coreStepsSpec)) coreStepsUptoCard

/-- THE SECOND FORM's CARD OF 'paydesklaw12.CoreOnce'. -/
def coreOnceUptoCard : Claim7 := { stood := { row := coreOnceUptoRow, standIns := [], harness := (true, "b9e6a41e3522b12ad6ecc3fe3e453b671602aa98c03c3738fad5db72d8614bc4"), looks := false }, kinds := [], alts := [], laidByText := true, laidKinds := [.data, .data], laidTests := true, laidLooks := .later }
def CoreOnceUptoCardSaid : Prop := Claim7.holds Tryd.pinned (.plain (OpenSpec.upto coreOnceSpec)) coreOnceUptoCard

/-- THE SECOND FORM's CARD OF 'paydesklaw12.CoreRests'. -/
def coreRestsUptoCard : Claim7 := { stood := { row := coreRestsUptoRow, standIns := [], harness := (true, "b9e6a41e3522b12ad6ecc3fe3e453b671602aa98c03c3738fad5db72d8614bc4"), looks := false }, kinds := [], alts := [], laidByText := true, laidKinds := [.data, .data], laidTests := true, laidLooks := .later }
def CoreRestsUptoCardSaid : Prop := Claim7.holds Tryd.pinned (.plain (OpenSpec.upto coreRestsSpec)) coreRestsUptoCard
end Rows
end Go.Proofs.YtcjogfdlpoablaaDoor

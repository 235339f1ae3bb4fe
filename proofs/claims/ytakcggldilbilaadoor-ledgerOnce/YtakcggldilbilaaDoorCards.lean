/-
  DERIVED. GIVEN WITH THE SEED: THE CARDS: each row of YtakcggldilbilaaDoorRows.lean that lists a variable, with what it lists TIED to the program's text (the seventh form; the later family's looks); each row that meets fmt, with fmt's text TOLD by the authors' own Lean function (tested against real Go, not proved from fmt's source: count such statements apart). THE CARD IS WHAT COUNTS. Prove the row's statement (the work); the ties are given (YtakcggldilbilaaDoorTie.lean); close each card by the builder's one call (the guide's Derived/Test/ToyasCard.lean, 'card_holds'). Laid BY PROGRAM, IN A SANDBOX (cutbox-door.mjs). By AI agents, Wed Nov 11 2026. No macro, syntax, notation, axiom, sorry.
-/
import Derived.Test.YtakcggldilbilaaDoorRows
import GoSem.ClaimSeven
namespace Go.Proofs.YtakcggldilbilaaDoor
namespace Rows

/-- THE TIED CARD OF 'paydesklaw01.DigitFine'. -/
def digitFineCard : Claim7 := { stood := { row := digitFineRow, standIns := [], harness := (true, "dc0431b15012b6d50bf50cbd94f188abb9b55426d05de18bf82d675e7cb67dbd"), looks := false }, kinds := [], alts := [], laidByText := true, laidKinds := [.data, .data, .data], laidTests := true, laidLooks := .later }
def DigitFineCardSaid : Prop := Claim7.holds Tryd.pinned (.plain (OpenSpec.ofChange digitFineSpec)) digitFineCard

/-- THE TIED CARD OF 'paydesklaw04.MessageRight'. -/
def messageRightCard : Claim7 := { stood := { row := messageRightRow, standIns := [], harness := (true, "dc0431b15012b6d50bf50cbd94f188abb9b55426d05de18bf82d675e7cb67dbd"), looks := false }, kinds := [], alts := [], laidByText := true, laidKinds := [.data, .data, .data, .data], laidTests := true, laidLooks := .later }
def MessageRightCardSaid : Prop := Claim7.holds Tryd.pinned (.plain (OpenSpec.ofChange messageRightSpec)) messageRightCard

/-- THE TIED CARD OF 'paydesklaw04.MessageBack'. -/
def messageBackCard : Claim7 := { stood := { row := messageBackRow, standIns := [], harness := (true, "dc0431b15012b6d50bf50cbd94f188abb9b55426d05de18bf82d675e7cb67dbd"), looks := false }, kinds := [], alts := [], laidByText := true, laidKinds := [.data, .data, .data, .data], laidTests := true, laidLooks := .later }
def MessageBackCardSaid : Prop := Claim7.holds Tryd.pinned (.plain (OpenSpec.ofChange messageBackSpec)) messageBackCard

/-- THE TIED CARD OF 'paydesklaw04.MessageGets'. -/
def messageGetsCard : Claim7 := { stood := { row := messageGetsRow, standIns := [], harness := (true, "dc0431b15012b6d50bf50cbd94f188abb9b55426d05de18bf82d675e7cb67dbd"), looks := false }, kinds := [], alts := [], laidByText := true, laidKinds := [.data, .data, .data, .data], laidTests := true, laidLooks := .later }
def MessageGetsCardSaid : Prop := Claim7.holds Tryd.pinned (.plain (OpenSpec.ofChange messageGetsSpec)) messageGetsCard

/-- THE TIED CARD OF 'paydesklaw06.DealRight'. -/
def dealRightCard : Claim7 := { stood := { row := dealRightRow, standIns := [], harness := (true, "dc0431b15012b6d50bf50cbd94f188abb9b55426d05de18bf82d675e7cb67dbd"), looks := false }, kinds := [], alts := [], laidByText := true, laidKinds := [.data, .data, .data, .data, .data], laidTests := true, laidLooks := .later }
def DealRightCardSaid : Prop := Claim7.holds Tryd.pinned (.plain (OpenSpec.ofChange dealRightSpec)) dealRightCard

/-- THE TIED CARD OF 'paydesklaw06.DealBack'. -/
def dealBackCard : Claim7 := { stood := { row := dealBackRow, standIns := [], harness := (true, "dc0431b15012b6d50bf50cbd94f188abb9b55426d05de18bf82d675e7cb67dbd"), looks := false }, kinds := [], alts := [], laidByText := true, laidKinds := [.data, .data, .data, .data, .data], laidTests := true, laidLooks := .later }
def DealBackCardSaid : Prop := Claim7.holds Tryd.pinned (.plain (OpenSpec.ofChange dealBackSpec)) dealBackCard

/-- THE TIED CARD OF 'paydesklaw06.DealBytes'. -/
def dealBytesCard : Claim7 := { stood := { row := dealBytesRow, standIns := [], harness := (true, "dc0431b15012b6d50bf50cbd94f188abb9b55426d05de18bf82d675e7cb67dbd"), looks := false }, kinds := [], alts := [], laidByText := true, laidKinds := [.data, .data, .data, .data, .data], laidTests := true, laidLooks := .later }
def DealBytesCardSaid : Prop := Claim7.holds Tryd.pinned (.plain (OpenSpec.ofChange dealBytesSpec)) dealBytesCard

/-- THE TIED CARD OF 'paydesklaw10.ShardRight'. -/
def shardRightCard : Claim7 := { stood := { row := shardRightRow, standIns := [], harness := (true, "dc0431b15012b6d50bf50cbd94f188abb9b55426d05de18bf82d675e7cb67dbd"), looks := false }, kinds := [], alts := [], laidByText := true, laidKinds := [.data], laidTests := true, laidLooks := .later }
def ShardRightCardSaid : Prop := Claim7.holds Tryd.pinned (.plain (OpenSpec.ofChange shardRightSpec)) shardRightCard

/-- THE TIED CARD OF 'paydesklaw10.ShardSwaps'. -/
def shardSwapsCard : Claim7 := { stood := { row := shardSwapsRow, standIns := [], harness := (true, "dc0431b15012b6d50bf50cbd94f188abb9b55426d05de18bf82d675e7cb67dbd"), looks := false }, kinds := [], alts := [], laidByText := true, laidKinds := [.data], laidTests := true, laidLooks := .later }
def ShardSwapsCardSaid : Prop := Claim7.holds Tryd.pinned (.plain (OpenSpec.ofChange shardSwapsSpec)) shardSwapsCard

/-- THE TIED CARD OF 'paydesklaw15.LedgerRight'. -/
def ledgerRightCard : Claim7 := { stood := { row := ledgerRightRow, standIns := [], harness := (true, "dc0431b15012b6d50bf50cbd94f188abb9b55426d05de18bf82d675e7cb67dbd"), looks := false }, kinds := [], alts := [], laidByText := true, laidKinds := [.data, .data], laidTests := true, laidLooks := .later }
def LedgerRightCardSaid : Prop := Claim7.holds Tryd.pinned (.plain (OpenSpec.ofChange ledgerRightSpec)) ledgerRightCard

/-- THE TIED CARD OF 'paydesklaw15.LedgerOnce'. -/
def ledgerOnceCard : Claim7 := { stood := { row := ledgerOnceRow, standIns := [], harness := (true, "dc0431b15012b6d50bf50cbd94f188abb9b55426d05de18bf82d675e7cb67dbd"), looks := false }, kinds := [], alts := [], laidByText := true, laidKinds := [.data, .data], laidTests := true, laidLooks := .later }
def LedgerOnceCardSaid : Prop := Claim7.holds Tryd.pinned (.plain (OpenSpec.ofChange ledgerOnceSpec)) ledgerOnceCard

/-- THE TIED CARD OF 'paydesklaw15.LedgerTwice'. -/
def ledgerTwiceCard : Claim7 := { stood := { row := ledgerTwiceRow, standIns := [], harness := (true, "dc0431b15012b6d50bf50cbd94f188abb9b55426d05de18bf82d675e7cb67dbd"), looks := false }, kinds := [], alts := [], laidByText := true, laidKinds := [.data, .data], laidTests := true, laidLooks := .later }
def LedgerTwiceCardSaid : Prop := Claim7.holds Tryd.pinned (.plain (OpenSpec.ofChange ledgerTwiceSpec)) ledgerTwiceCard

/-- THE SECOND FORM's CARD OF 'paydesklaw01.DigitFine'. -/
def digitFineUptoCard : Claim7 := { stood := { row := digitFineUptoRow, standIns := [], harness := (true, "dc0431b15012b6d50bf50cbd94f188abb9b55426d05de18bf82d675e7cb67dbd"), looks := false }, kinds := [], alts := [], laidByText := true, laidKinds := [.data, .data, .data], laidTests := true, laidLooks := .later }
def DigitFineUptoCardSaid : Prop := Claim7.holds Tryd.pinned (.plain (OpenSpec.upto digitFineSpec)) digitFineUptoCard

/-- THE SECOND FORM's CARD OF 'paydesklaw04.MessageRight'. -/
def messageRightUptoCard : Claim7 := { stood := { row := messageRightUptoRow, standIns := [], harness := (true, "dc0431b15012b6d50bf50cbd94f188abb9b55426d05de18bf82d675e7cb67dbd"), looks := false }, kinds := [], alts := [], laidByText := true, laidKinds := [.data, .data, .data, .data], laidTests := true, laidLooks := .later }
def MessageRightUptoCardSaid : Prop := Claim7.holds Tryd.pinned (.plain (OpenSpec.upto messageRightSpec)) messageRightUptoCard

/-- THE SECOND FORM's CARD OF 'paydesklaw04.MessageBack'. -/
def messageBackUptoCard : Claim7 := { stood := { row := messageBackUptoRow, standIns := [], harness := (true, "dc0431b15012b6d50bf50cbd94f188abb9b55426d05de18bf82d675e7cb67dbd"), looks := false }, kinds := [], alts := [], laidByText := true, laidKinds := [.data, .data, .data, .data], laidTests := true, laidLooks := .later }
def MessageBackUptoCardSaid : Prop := Claim7.holds Tryd.pinned (.plain (OpenSpec.upto messageBackSpec)) messageBackUptoCard

/-- THE SECOND FORM's CARD OF 'paydesklaw04.MessageGets'. -/
def messageGetsUptoCard : Claim7 := { stood := { row := messageGetsUptoRow, standIns := [], harness := (true, "dc0431b15012b6d50bf50cbd94f188abb9b55426d05de18bf82d675e7cb67dbd"), looks := false }, kinds := [], alts := [], laidByText := true, laidKinds := [.data, .data, .data, .data], laidTests := true, laidLooks := .later }
def MessageGetsUptoCardSaid : Prop := Claim7.holds Tryd.pinned (.plain (OpenSpec.upto messageGetsSpec)) messageGetsUptoCard

/-- THE SECOND FORM's CARD OF 'paydesklaw06.DealRight'. -/
def dealRightUptoCard : Claim7 := { stood := { row := dealRightUptoRow, standIns := [], harness := (true, "dc0431b15012b6d50bf50cbd94f188abb9b55426d05de18bf82d675e7cb67dbd"), looks := false }, kinds := [], alts := [], laidByText := true, laidKinds := [.data, .data, .data, .data, .data], laidTests := true, laidLooks := .later }
def DealRightUptoCardSaid : Prop := Claim7.holds Tryd.pinned (.plain (OpenSpec.upto dealRightSpec)) dealRightUptoCard

/-- THE SECOND FORM's CARD OF 'paydesklaw06.DealBack'. -/
def dealBackUptoCard : Claim7 := { stood := { row := dealBackUptoRow, standIns := [], harness := (true, "dc0431b15012b6d50bf50cbd94f188abb9b55426d05de18bf82d675e7cb67dbd"), looks := false }, kinds := [], alts := [], laidByText := true, laidKinds := [.data, .data, .data, .data, .data], laidTests := true, laidLooks := .later }
def DealBackUptoCardSaid : Prop := Claim7.holds Tryd.pinned (.plain (OpenSpec.upto dealBackSpec)) dealBackUptoCard

/-- THE SECOND FORM's CARD OF 'paydesklaw06.DealBytes'. -/
def dealBytesUptoCard : Claim7 := { stood := { row := dealBytesUptoRow, standIns := [], harness := (true, "dc0431b15012b6d50bf50cbd94f188abb9b55426d05de18bf82d675e7cb67dbd"), looks := false }, kinds := [], alts := [], laidByText := true, laidKinds := [.data, .data, .data, .data, .data], laidTests := true, laidLooks := .later }
def DealBytesUptoCardSaid : Prop := Claim7.holds Tryd.pinned (.plain (OpenSpec.upto dealBytesSpec)) dealBytesUptoCard

/-- THE SECOND FORM's CARD OF 'paydesklaw10.ShardRight'. -/
def shardRightUptoCard : Claim7 := { stood := { row := shardRightUptoRow, standIns := [], harness := (true, "dc0431b15012b6d50bf50cbd94f188abb9b55426d05de18bf82d675e7cb67dbd"), looks := false }, kinds := [], alts := [], laidByText := true, laidKinds := [.data], laidTests := true, laidLooks := .later }
def ShardRightUptoCardSaid : Prop := Claim7.holds Tryd.pinned (.plain (OpenSpec.upto shardRightSpec)) shardRightUptoCard

/-- THE SECOND FORM's CARD OF 'paydesklaw10.ShardSwaps'. -/
def shardSwapsUptoCard : Claim7 := { stood := { row := shardSwapsUptoRow, standIns := [], harness := (true, "dc0431b15012b6d50bf50cbd94f188abb9b55426d05de18bf82d675e7cb67dbd"), looks := false }, kinds := [], alts := [], laidByText := true, laidKinds := [.data], laidTests := true, laidLooks := .later }
def ShardSwapsUptoCardSaid : Prop := Claim7.holds Tryd.pinned (.plain (OpenSpec.upto shardSwapsSpec)) shardSwapsUptoCard

/-- THE SECOND FORM's CARD OF 'paydesklaw15.LedgerRight'. -/
def ledgerRightUptoCard : Claim7 := { stood := { row := ledgerRightUptoRow, standIns := [], harness := (true, "dc0431b15012b6d50bf50cbd94f188abb9b55426d05de18bf82d675e7cb67dbd"), looks := false }, kinds := [], alts := [], laidByText := true, laidKinds := [.data, .data], laidTests := true, laidLooks := .later }
def LedgerRightUptoCardSaid : Prop := Claim7.holds Tryd.pinned (.plain (OpenSpec.upto ledgerRightSpec)) ledgerRightUptoCard

/-- THE SECOND FORM's CARD OF 'paydesklaw15.LedgerOnce'. -/
def ledgerOnceUptoCard : Claim7 := { stood := { row := ledgerOnceUptoRow, standIns := [], harness := (true, "dc0431b15012b6d50bf50cbd94f188abb9b55426d05de18bf82d675e7cb67dbd"), looks := false }, kinds := [], alts := [], laidByText := true, laidKinds := [.data, .data], laidTests := true, laidLooks := .later }
def LedgerOnceUptoCardSaid : Prop := Claim7.holds Tryd.pinned (.plain (OpenSpec.upto ledgerOnceSpec)) ledgerOnceUptoCard

/-- THE SECOND FORM's CARD OF 'paydesklaw15.LedgerTwice'. -/
def ledgerTwiceUptoCard : Claim7 := { stood := { row := ledgerTwiceUptoRow, standIns := [], harness := (true, "dc0431b15012b6d50bf50cbd94f188abb9b55426d05de18bf82d675e7cb67dbd"), looks := false }, kinds := [], alts := [], laidByText := true, laidKinds := [.data, .data], laidTests := true, laidLooks := .later }
def LedgerTwiceUptoCardSaid : Prop := Claim7.holds Tryd.pinned (.plain (OpenSpec.upto ledgerTwiceSpec)) ledgerTwiceUptoCard
end Rows
end Go.Proofs.YtakcggldilbilaaDoor

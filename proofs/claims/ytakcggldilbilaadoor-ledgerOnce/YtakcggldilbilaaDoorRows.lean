/-
  NARROWER THAN 'FOR EVERY INPUT', by the rows' own cells (each row's printed sentence says how): DigitFine: laid · MessageRight: laid · MessageBack: laid · MessageGets: laid · DealRight: laid · DealBack: laid · DealBytes: laid · ShardRight: laid · ShardSwaps: laid · LedgerRight: laid · LedgerOnce: laid · LedgerTwice: laid.
  DERIVED. THE GIVEN ROWS OF THIS SEAT. 12 by the template 'for every input the law returns true; each argument reads behind the call as it read before'; 0 by the template 'total and deterministic' (their statements: YtakcggldilbilaaDoorTotals.lean).
  GIVEN WITH THE SEED: the statements are not yours to turn. If you find one false, say at which input.
  Laid BY PROGRAM, IN A SANDBOX (cutbox-rows.mjs): the forced cells as the released guide's own fill.sh prints them over the translation 35d6a575ac25c44a… (all of the seat's roots in one cut). By AI agents, Wed Nov 11 2026. No macro, syntax, notation, axiom, sorry.
-/
import Derived.Test.YtakcggldilbilaaDoorChecked
import GoSem.Claim
import GoSem.ClaimJoined
import GoSem.ClaimMapViews
import Derived.JoinedTies
import Derived.KernelRfl
namespace Go.Proofs.YtakcggldilbilaaDoor
/- THE CELL 'sum', in the pinned program and in every row, IS THE sha256 OF THE DUMP (.gsa) THAT YtakcggldilbilaaDoorProg.lean LOADS. Nothing in Lean hashes anything: it is a label: what it is worth is what the hold of that sum in a sandbox is worth. -/
noncomputable def Tryd.pinned : Pinned := { name := "ytakcggldilbilaadoor", sum := "35d6a575ac25c44ab781b0271e7375d7416619ae0e1cf6fa567afccff4233038", checked := Tryd.checked }
namespace Rows
def none {H : Type} : Left H := { results := [], args := [] }

/- WHAT THE LISTED PACKAGE-LEVEL VARIABLES READ AS WHEN THE CALL BEGINS. Each datum BY PROGRAM (the guide's laid-datum.mjs) off the statement by which the dump's own 'gosem.cut.vars' lays the variable. In a bare row this is a premise. The card (YtakcggldilbilaaDoorCards.lean) ties it to the program's text. -/
def laid_math_bits_deBruijn32tab {H : Type} : DataW H := .agg [.lit (.int .u8 0), .lit (.int .u8 1), .lit (.int .u8 28), .lit (.int .u8 2), .lit (.int .u8 29), .lit (.int .u8 14), .lit (.int .u8 24), .lit (.int .u8 3), .lit (.int .u8 30), .lit (.int .u8 22), .lit (.int .u8 20), .lit (.int .u8 15), .lit (.int .u8 25), .lit (.int .u8 17), .lit (.int .u8 4), .lit (.int .u8 8), .lit (.int .u8 31), .lit (.int .u8 27), .lit (.int .u8 13), .lit (.int .u8 23), .lit (.int .u8 21), .lit (.int .u8 19), .lit (.int .u8 16), .lit (.int .u8 7), .lit (.int .u8 26), .lit (.int .u8 12), .lit (.int .u8 18), .lit (.int .u8 6), .lit (.int .u8 11), .lit (.int .u8 5), .lit (.int .u8 10), .lit (.int .u8 9)]
def laid_math_bits_deBruijn64tab {H : Type} : DataW H := .agg [.lit (.int .u8 0), .lit (.int .u8 1), .lit (.int .u8 56), .lit (.int .u8 2), .lit (.int .u8 57), .lit (.int .u8 49), .lit (.int .u8 28), .lit (.int .u8 3), .lit (.int .u8 61), .lit (.int .u8 58), .lit (.int .u8 42), .lit (.int .u8 50), .lit (.int .u8 38), .lit (.int .u8 29), .lit (.int .u8 17), .lit (.int .u8 4), .lit (.int .u8 62), .lit (.int .u8 47), .lit (.int .u8 59), .lit (.int .u8 36), .lit (.int .u8 45), .lit (.int .u8 43), .lit (.int .u8 51), .lit (.int .u8 22), .lit (.int .u8 53), .lit (.int .u8 39), .lit (.int .u8 33), .lit (.int .u8 30), .lit (.int .u8 24), .lit (.int .u8 18), .lit (.int .u8 12), .lit (.int .u8 5), .lit (.int .u8 63), .lit (.int .u8 55), .lit (.int .u8 48), .lit (.int .u8 27), .lit (.int .u8 60), .lit (.int .u8 41), .lit (.int .u8 37), .lit (.int .u8 16), .lit (.int .u8 46), .lit (.int .u8 35), .lit (.int .u8 44), .lit (.int .u8 21), .lit (.int .u8 52), .lit (.int .u8 32), .lit (.int .u8 23), .lit (.int .u8 11), .lit (.int .u8 54), .lit (.int .u8 26), .lit (.int .u8 40), .lit (.int .u8 15), .lit (.int .u8 34), .lit (.int .u8 20), .lit (.int .u8 31), .lit (.int .u8 10), .lit (.int .u8 25), .lit (.int .u8 14), .lit (.int .u8 19), .lit (.int .u8 9), .lit (.int .u8 13), .lit (.int .u8 8), .lit (.int .u8 7), .lit (.int .u8 6)]
def laid_internal_strconv_uint64pow10 {H : Type} : DataW H := .agg [.lit (.int .u64 1), .lit (.int .u64 10), .lit (.int .u64 100), .lit (.int .u64 1000), .lit (.int .u64 10000), .lit (.int .u64 100000), .lit (.int .u64 1000000), .lit (.int .u64 10000000), .lit (.int .u64 100000000), .lit (.int .u64 1000000000), .lit (.int .u64 10000000000), .lit (.int .u64 100000000000), .lit (.int .u64 1000000000000), .lit (.int .u64 10000000000000), .lit (.int .u64 100000000000000), .lit (.int .u64 1000000000000000), .lit (.int .u64 10000000000000000), .lit (.int .u64 100000000000000000), .lit (.int .u64 1000000000000000000), .lit (.int .u64 10000000000000000000)]
def laid_paydesk_field_known {H : Type} : DataW H := .agg [.agg [.lit (.int .i64 2), .lit (.int .i64 3), .lit (.int .i64 19)], .agg [.lit (.int .i64 3), .lit (.int .i64 1), .lit (.int .i64 6)], .agg [.lit (.int .i64 4), .lit (.int .i64 1), .lit (.int .i64 12)], .agg [.lit (.int .i64 7), .lit (.int .i64 1), .lit (.int .i64 10)], .agg [.lit (.int .i64 11), .lit (.int .i64 1), .lit (.int .i64 6)], .agg [.lit (.int .i64 12), .lit (.int .i64 1), .lit (.int .i64 6)], .agg [.lit (.int .i64 37), .lit (.int .i64 2), .lit (.int .i64 12)], .agg [.lit (.int .i64 38), .lit (.int .i64 2), .lit (.int .i64 6)], .agg [.lit (.int .i64 39), .lit (.int .i64 2), .lit (.int .i64 2)], .agg [.lit (.int .i64 41), .lit (.int .i64 2), .lit (.int .i64 8)], .agg [.lit (.int .i64 44), .lit (.int .i64 4), .lit (.int .i64 25)], .agg [.lit (.int .i64 48), .lit (.int .i64 5), .lit (.int .i64 999)], .agg [.lit (.int .i64 49), .lit (.int .i64 1), .lit (.int .i64 3)], .agg [.lit (.int .i64 90), .lit (.int .i64 1), .lit (.int .i64 42)], .agg [.lit (.int .i64 120), .lit (.int .i64 5), .lit (.int .i64 999)]]
def laid_paydesk_deal_types {H : Type} : DataW H := .agg [.lit (.string [48, 49, 48, 48]), .lit (.string [48, 49, 49, 48]), .lit (.string [48, 52, 48, 48]), .lit (.string [48, 52, 49, 48]), .lit (.string [48, 52, 50, 48]), .lit (.string [48, 52, 50, 49]), .lit (.string [48, 52, 51, 48])]

/-- 'paydesklaw01.DigitFine': WHATEVER THE INPUT: true; the input reads as it did. -/
def digitFineSpec : ChangeSpec := { name := "digitFine", fn := fun _ => fun
  | [d1, d2, d3] => { results := [.lit (.bool true)], args := [d1, d2, d3] }
  | _ => none }
def digitFineRow : OpenClaim := { program := "ytakcggldilbilaadoor", sum := "35d6a575ac25c44ab781b0271e7375d7416619ae0e1cf6fa567afccff4233038", func := "paydesk/paydesklaw01.DigitFine", spec := "digitFine", inPlace := ["internal/abi.NoEscape", "internal/bytealg.MakeNoZero"], unfollowed := true, recurses := true, named := ["internal/strconv.uint64pow10", "math/bits.deBruijn32tab", "math/bits.deBruijn64tab"], apart := false, laid := [("math/bits.deBruijn32tab", laid_math_bits_deBruijn32tab), ("math/bits.deBruijn64tab", laid_math_bits_deBruijn64tab), ("internal/strconv.uint64pow10", laid_internal_strconv_uint64pow10)] }
def DigitFineSaid : Prop := digitFineRow.holds Tryd.pinned (OpenSpec.ofChange digitFineSpec)

/-- ITS FALSE NEIGHBOUR: 'it returns false'. Refute it at one input. -/
def digitFineWrong : ChangeSpec := { name := "digitFine", fn := fun _ => fun
  | [d1, d2, d3] => { results := [.lit (.bool false)], args := [d1, d2, d3] }
  | _ => none }
def DigitFineWrongFalsely : Prop := digitFineRow.holds Tryd.pinned (OpenSpec.ofChange digitFineWrong)

/-- 'paydesklaw04.MessageRight': WHATEVER THE INPUT: true; the input reads as it did. -/
def messageRightSpec : ChangeSpec := { name := "messageRight", fn := fun _ => fun
  | [d1, d2, d3] => { results := [.lit (.bool true)], args := [d1, d2, d3] }
  | _ => none }
def messageRightRow : OpenClaim := { program := "ytakcggldilbilaadoor", sum := "35d6a575ac25c44ab781b0271e7375d7416619ae0e1cf6fa567afccff4233038", func := "paydesk/paydesklaw04.MessageRight", spec := "messageRight", inPlace := ["internal/abi.NoEscape", "internal/bytealg.MakeNoZero"], unfollowed := true, recurses := true, named := ["paydesk/field.known", "internal/strconv.uint64pow10", "math/bits.deBruijn32tab", "math/bits.deBruijn64tab"], apart := false, laid := [("math/bits.deBruijn32tab", laid_math_bits_deBruijn32tab), ("math/bits.deBruijn64tab", laid_math_bits_deBruijn64tab), ("internal/strconv.uint64pow10", laid_internal_strconv_uint64pow10), ("paydesk/field.known", laid_paydesk_field_known)] }
def MessageRightSaid : Prop := messageRightRow.holds Tryd.pinned (OpenSpec.ofChange messageRightSpec)

/-- ITS FALSE NEIGHBOUR: 'it returns false'. Refute it at one input. -/
def messageRightWrong : ChangeSpec := { name := "messageRight", fn := fun _ => fun
  | [d1, d2, d3] => { results := [.lit (.bool false)], args := [d1, d2, d3] }
  | _ => none }
def MessageRightWrongFalsely : Prop := messageRightRow.holds Tryd.pinned (OpenSpec.ofChange messageRightWrong)

/-- 'paydesklaw04.MessageBack': WHATEVER THE INPUT: true; the input reads as it did. -/
def messageBackSpec : ChangeSpec := { name := "messageBack", fn := fun _ => fun
  | [d1, d2, d3, d4] => { results := [.lit (.bool true)], args := [d1, d2, d3, d4] }
  | _ => none }
def messageBackRow : OpenClaim := { program := "ytakcggldilbilaadoor", sum := "35d6a575ac25c44ab781b0271e7375d7416619ae0e1cf6fa567afccff4233038", func := "paydesk/paydesklaw04.MessageBack", spec := "messageBack", inPlace := ["internal/abi.NoEscape", "internal/bytealg.MakeNoZero"], unfollowed := true, recurses := true, named := ["paydesk/field.known", "internal/strconv.uint64pow10", "math/bits.deBruijn32tab", "math/bits.deBruijn64tab"], apart := false, laid := [("math/bits.deBruijn32tab", laid_math_bits_deBruijn32tab), ("math/bits.deBruijn64tab", laid_math_bits_deBruijn64tab), ("internal/strconv.uint64pow10", laid_internal_strconv_uint64pow10), ("paydesk/field.known", laid_paydesk_field_known)] }
def MessageBackSaid : Prop := messageBackRow.holds Tryd.pinned (OpenSpec.ofChange messageBackSpec)

/-- ITS FALSE NEIGHBOUR: 'it returns false'. Refute it at one input. -/
def messageBackWrong : ChangeSpec := { name := "messageBack", fn := fun _ => fun
  | [d1, d2, d3, d4] => { results := [.lit (.bool false)], args := [d1, d2, d3, d4] }
  | _ => none }
def MessageBackWrongFalsely : Prop := messageBackRow.holds Tryd.pinned (OpenSpec.ofChange messageBackWrong)

/-- 'paydesklaw04.MessageGets': WHATEVER THE INPUT: true; the input reads as it did. -/
def messageGetsSpec : ChangeSpec := { name := "messageGets", fn := fun _ => fun
  | [d1, d2] => { results := [.lit (.bool true)], args := [d1, d2] }
  | _ => none }
def messageGetsRow : OpenClaim := { program := "ytakcggldilbilaadoor", sum := "35d6a575ac25c44ab781b0271e7375d7416619ae0e1cf6fa567afccff4233038", func := "paydesk/paydesklaw04.MessageGets", spec := "messageGets", inPlace := ["internal/abi.NoEscape", "internal/bytealg.MakeNoZero"], unfollowed := true, recurses := true, named := ["paydesk/field.known", "internal/strconv.uint64pow10", "math/bits.deBruijn32tab", "math/bits.deBruijn64tab"], apart := false, laid := [("math/bits.deBruijn32tab", laid_math_bits_deBruijn32tab), ("math/bits.deBruijn64tab", laid_math_bits_deBruijn64tab), ("internal/strconv.uint64pow10", laid_internal_strconv_uint64pow10), ("paydesk/field.known", laid_paydesk_field_known)] }
def MessageGetsSaid : Prop := messageGetsRow.holds Tryd.pinned (OpenSpec.ofChange messageGetsSpec)

/-- ITS FALSE NEIGHBOUR: 'it returns false'. Refute it at one input. -/
def messageGetsWrong : ChangeSpec := { name := "messageGets", fn := fun _ => fun
  | [d1, d2] => { results := [.lit (.bool false)], args := [d1, d2] }
  | _ => none }
def MessageGetsWrongFalsely : Prop := messageGetsRow.holds Tryd.pinned (OpenSpec.ofChange messageGetsWrong)

/-- 'paydesklaw06.DealRight': WHATEVER THE INPUT: true; the input reads as it did. -/
def dealRightSpec : ChangeSpec := { name := "dealRight", fn := fun _ => fun
  | [d1, d2, d3] => { results := [.lit (.bool true)], args := [d1, d2, d3] }
  | _ => none }
def dealRightRow : OpenClaim := { program := "ytakcggldilbilaadoor", sum := "35d6a575ac25c44ab781b0271e7375d7416619ae0e1cf6fa567afccff4233038", func := "paydesk/paydesklaw06.DealRight", spec := "dealRight", inPlace := ["internal/abi.NoEscape", "internal/bytealg.MakeNoZero"], unfollowed := true, recurses := true, named := ["paydesk/deal.types", "paydesk/field.known", "internal/strconv.uint64pow10", "math/bits.deBruijn32tab", "math/bits.deBruijn64tab"], apart := false, laid := [("math/bits.deBruijn32tab", laid_math_bits_deBruijn32tab), ("math/bits.deBruijn64tab", laid_math_bits_deBruijn64tab), ("internal/strconv.uint64pow10", laid_internal_strconv_uint64pow10), ("paydesk/field.known", laid_paydesk_field_known), ("paydesk/deal.types", laid_paydesk_deal_types)] }
def DealRightSaid : Prop := dealRightRow.holds Tryd.pinned (OpenSpec.ofChange dealRightSpec)

/-- ITS FALSE NEIGHBOUR: 'it returns false'. Refute it at one input. -/
def dealRightWrong : ChangeSpec := { name := "dealRight", fn := fun _ => fun
  | [d1, d2, d3] => { results := [.lit (.bool false)], args := [d1, d2, d3] }
  | _ => none }
def DealRightWrongFalsely : Prop := dealRightRow.holds Tryd.pinned (OpenSpec.ofChange dealRightWrong)

/-- 'paydesklaw06.DealBack': WHATEVER THE INPUT: true; the input reads as it did. -/
def dealBackSpec : ChangeSpec := { name := "dealBack", fn := fun _ => fun
  | [d1, d2, d3] => { results := [.lit (.bool true)], args := [d1, d2, d3] }
  | _ => none }
def dealBackRow : OpenClaim := { program := "ytakcggldilbilaadoor", sum := "35d6a575ac25c44ab781b0271e7375d7416619ae0e1cf6fa567afccff4233038", func := "paydesk/paydesklaw06.DealBack", spec := "dealBack", inPlace := ["internal/abi.NoEscape", "internal/bytealg.MakeNoZero"], unfollowed := true, recurses := true, named := ["paydesk/deal.types", "paydesk/field.known", "internal/strconv.uint64pow10", "math/bits.deBruijn32tab", "math/bits.deBruijn64tab"], apart := false, laid := [("math/bits.deBruijn32tab", laid_math_bits_deBruijn32tab), ("math/bits.deBruijn64tab", laid_math_bits_deBruijn64tab), ("internal/strconv.uint64pow10", laid_internal_strconv_uint64pow10), ("paydesk/field.known", laid_paydesk_field_known), ("paydesk/deal.types", laid_paydesk_deal_types)] }
def DealBackSaid : Prop := dealBackRow.holds Tryd.pinned (OpenSpec.ofChange dealBackSpec)

/-- ITS FALSE NEIGHBOUR: 'it returns false'. Refute it at one input. -/
def dealBackWrong : ChangeSpec := { name := "dealBack", fn := fun _ => fun
  | [d1, d2, d3] => { results := [.lit (.bool false)], args := [d1, d2, d3] }
  | _ => none }
def DealBackWrongFalsely : Prop := dealBackRow.holds Tryd.pinned (OpenSpec.ofChange dealBackWrong)

/-- 'paydesklaw06.DealBytes': WHATEVER THE INPUT: true; the input reads as it did. -/
def dealBytesSpec : ChangeSpec := { name := "dealBytes", fn := fun _ => fun
  | [d1, d2, d3] => { results := [.lit (.bool true)], args := [d1, d2, d3] }
  | _ => none }
def dealBytesRow : OpenClaim := { program := "ytakcggldilbilaadoor", sum := "35d6a575ac25c44ab781b0271e7375d7416619ae0e1cf6fa567afccff4233038", func := "paydesk/paydesklaw06.DealBytes", spec := "dealBytes", inPlace := ["internal/abi.NoEscape", "internal/bytealg.MakeNoZero"], unfollowed := true, recurses := true, named := ["paydesk/deal.types", "paydesk/field.known", "internal/strconv.uint64pow10", "math/bits.deBruijn32tab", "math/bits.deBruijn64tab"], apart := false, laid := [("math/bits.deBruijn32tab", laid_math_bits_deBruijn32tab), ("math/bits.deBruijn64tab", laid_math_bits_deBruijn64tab), ("internal/strconv.uint64pow10", laid_internal_strconv_uint64pow10), ("paydesk/field.known", laid_paydesk_field_known), ("paydesk/deal.types", laid_paydesk_deal_types)] }
def DealBytesSaid : Prop := dealBytesRow.holds Tryd.pinned (OpenSpec.ofChange dealBytesSpec)

/-- ITS FALSE NEIGHBOUR: 'it returns false'. Refute it at one input. -/
def dealBytesWrong : ChangeSpec := { name := "dealBytes", fn := fun _ => fun
  | [d1, d2, d3] => { results := [.lit (.bool false)], args := [d1, d2, d3] }
  | _ => none }
def DealBytesWrongFalsely : Prop := dealBytesRow.holds Tryd.pinned (OpenSpec.ofChange dealBytesWrong)

/-- 'paydesklaw10.ShardRight': WHATEVER THE INPUT: true; the input reads as it did. -/
def shardRightSpec : ChangeSpec := { name := "shardRight", fn := fun _ => fun
  | [d1, d2, d3, d4] => { results := [.lit (.bool true)], args := [d1, d2, d3, d4] }
  | _ => none }
def shardRightRow : OpenClaim := { program := "ytakcggldilbilaadoor", sum := "35d6a575ac25c44ab781b0271e7375d7416619ae0e1cf6fa567afccff4233038", func := "paydesk/paydesklaw10.ShardRight", spec := "shardRight", inPlace := ["slices.overlaps[paydesk/api.Entry]"], unfollowed := true, recurses := true, named := ["paydesk/field.known"], apart := false, laid := [("paydesk/field.known", laid_paydesk_field_known)] }
def ShardRightSaid : Prop := shardRightRow.holds Tryd.pinned (OpenSpec.ofChange shardRightSpec)

/-- ITS FALSE NEIGHBOUR: 'it returns false'. Refute it at one input. -/
def shardRightWrong : ChangeSpec := { name := "shardRight", fn := fun _ => fun
  | [d1, d2, d3, d4] => { results := [.lit (.bool false)], args := [d1, d2, d3, d4] }
  | _ => none }
def ShardRightWrongFalsely : Prop := shardRightRow.holds Tryd.pinned (OpenSpec.ofChange shardRightWrong)

/-- 'paydesklaw10.ShardSwaps': WHATEVER THE INPUT: true; the input reads as it did. -/
def shardSwapsSpec : ChangeSpec := { name := "shardSwaps", fn := fun _ => fun
  | [d1, d2, d3, d4] => { results := [.lit (.bool true)], args := [d1, d2, d3, d4] }
  | _ => none }
def shardSwapsRow : OpenClaim := { program := "ytakcggldilbilaadoor", sum := "35d6a575ac25c44ab781b0271e7375d7416619ae0e1cf6fa567afccff4233038", func := "paydesk/paydesklaw10.ShardSwaps", spec := "shardSwaps", inPlace := ["slices.overlaps[paydesk/api.Entry]"], unfollowed := true, recurses := true, named := ["paydesk/field.known"], apart := false, laid := [("paydesk/field.known", laid_paydesk_field_known)] }
def ShardSwapsSaid : Prop := shardSwapsRow.holds Tryd.pinned (OpenSpec.ofChange shardSwapsSpec)

/-- ITS FALSE NEIGHBOUR: 'it returns false'. Refute it at one input. -/
def shardSwapsWrong : ChangeSpec := { name := "shardSwaps", fn := fun _ => fun
  | [d1, d2, d3, d4] => { results := [.lit (.bool false)], args := [d1, d2, d3, d4] }
  | _ => none }
def ShardSwapsWrongFalsely : Prop := shardSwapsRow.holds Tryd.pinned (OpenSpec.ofChange shardSwapsWrong)

/-- 'paydesklaw15.LedgerRight': WHATEVER THE INPUT: true; the input reads as it did. -/
def ledgerRightSpec : ChangeSpec := { name := "ledgerRight", fn := fun _ => fun
  | [d1, d2, d3, d4] => { results := [.lit (.bool true)], args := [d1, d2, d3, d4] }
  | _ => none }
def ledgerRightRow : OpenClaim := { program := "ytakcggldilbilaadoor", sum := "35d6a575ac25c44ab781b0271e7375d7416619ae0e1cf6fa567afccff4233038", func := "paydesk/paydesklaw15.LedgerRight", spec := "ledgerRight", inPlace := ["slices.overlaps[paydesk/api.Hold]"], unfollowed := true, recurses := true, named := ["paydesk/deal.types", "paydesk/field.known"], apart := false, laid := [("paydesk/field.known", laid_paydesk_field_known), ("paydesk/deal.types", laid_paydesk_deal_types)] }
def LedgerRightSaid : Prop := ledgerRightRow.holds Tryd.pinned (OpenSpec.ofChange ledgerRightSpec)

/-- ITS FALSE NEIGHBOUR: 'it returns false'. Refute it at one input. -/
def ledgerRightWrong : ChangeSpec := { name := "ledgerRight", fn := fun _ => fun
  | [d1, d2, d3, d4] => { results := [.lit (.bool false)], args := [d1, d2, d3, d4] }
  | _ => none }
def LedgerRightWrongFalsely : Prop := ledgerRightRow.holds Tryd.pinned (OpenSpec.ofChange ledgerRightWrong)

/-- 'paydesklaw15.LedgerOnce': WHATEVER THE INPUT: true; the input reads as it did. -/
def ledgerOnceSpec : ChangeSpec := { name := "ledgerOnce", fn := fun _ => fun
  | [d1, d2, d3] => { results := [.lit (.bool true)], args := [d1, d2, d3] }
  | _ => none }
def ledgerOnceRow : OpenClaim := { program := "ytakcggldilbilaadoor", sum := "35d6a575ac25c44ab781b0271e7375d7416619ae0e1cf6fa567afccff4233038", func := "paydesk/paydesklaw15.LedgerOnce", spec := "ledgerOnce", inPlace := ["slices.overlaps[paydesk/api.Hold]"], unfollowed := true, recurses := true, named := ["paydesk/deal.types", "paydesk/field.known"], apart := false, laid := [("paydesk/field.known", laid_paydesk_field_known), ("paydesk/deal.types", laid_paydesk_deal_types)] }
def LedgerOnceSaid : Prop := ledgerOnceRow.holds Tryd.pinned (OpenSpec.ofChange ledgerOnceSpec)

/-- ITS FALSE NEIGHBOUR: 'it returns false'. Refute it at one input. -/
def ledgerOnceWrong : ChangeSpec := { name := "ledgerOnce", fn := fun _ => fun
  | [d1, d2, d3] => { results := [.lit (.bool false)], args := [d1, d2, d3] }
  | _ => none }
def LedgerOnceWrongFalsely : Prop := ledgerOnceRow.holds Tryd.pinned (OpenSpec.ofChange ledgerOnceWrong)

/-- 'paydesklaw15.LedgerTwice': WHATEVER THE INPUT: true; the input reads as it did. -/
def ledgerTwiceSpec : ChangeSpec := { name := "ledgerTwice", fn := fun _ => fun
  | [d1, d2, d3, d4] => { results := [.lit (.bool true)], args := [d1, d2, d3, d4] }
  | _ => none }
def ledgerTwiceRow : OpenClaim := { program := "ytakcggldilbilaadoor", sum := "35d6a575ac25c44ab781b0271e7375d7416619ae0e1cf6fa567afccff4233038", func := "paydesk/paydesklaw15.LedgerTwice", spec := "ledgerTwice", inPlace := ["slices.overlaps[paydesk/api.Hold]"], unfollowed := true, recurses := true, named := ["paydesk/deal.types", "paydesk/field.known"], apart := false, laid := [("paydesk/field.known", laid_paydesk_field_known), ("paydesk/deal.types", laid_paydesk_deal_types)] }
def LedgerTwiceSaid : Prop := ledgerTwiceRow.holds Tryd.pinned (OpenSpec.ofChange ledgerTwiceSpec)

/-- ITS FALSE NEIGHBOUR: 'it returns false'. Refute it at one input. -/
def ledgerTwiceWrong : ChangeSpec := { name := "ledgerTwice", fn := fun _ => fun
  | [d1, d2, d3, d4] => { results := [.lit (.bool false)], args := [d1, d2, d3, d4] }
  | _ => none }
def LedgerTwiceWrongFalsely : Prop := ledgerTwiceRow.holds Tryd.pinned (OpenSpec.ofChange ledgerTwiceWrong)

/- THE SECOND FORM. 'bulk': how many values and letters a reading holds, each counted each time it is reached (what is shared counts as often as it is met; a slice's spare places count too). A statement '..UptoSaid' is the law's where the arguments, and the package variables that the reading takes, are together of bulk at most 1048576: NARROWER than '..Said'. Prove '..Said' where nothing that the law and all that it calls make is longer than what came in: it says more and counts as full. Else prove '..UptoSaid'. A law counts once. -/
mutual
def uptoBulk {H : Type} : DataW H → Nat
  | .lit (.string bytes) => bytes.length + 1
  | .lit _ => 1
  | .nil => 1
  | .ptr d => uptoBulk d + 1
  | .slice elems spare => uptoBulkAll elems + uptoBulkAll spare + 1
  | .agg parts => uptoBulkAll parts + 1
  | .iface _ d => uptoBulk d + 1
  | .map entries => uptoBulkEntries entries + 1
  | .held _ => 1
def uptoBulkAll {H : Type} : List (DataW H) → Nat
  | [] => 0
  | d :: r => uptoBulk d + uptoBulkAll r
def uptoBulkEntries {H : Type} : List (Lit × DataW H) → Nat
  | [] => 0
  | x :: r => uptoBulkEntry x + uptoBulkEntries r
def uptoBulkEntry {H : Type} : Lit × DataW H → Nat
  | (.string bytes, d) => bytes.length + uptoBulk d + 1
  | (_, d) => uptoBulk d + 1
 end
def uptoSmall : (H : Type) → List (DataW H) → Bool := fun _ ds => decide (uptoBulkAll ds ≤ 1048576)
def OpenSpec.upto (s : _root_.Go.ChangeSpec) : _root_.Go.OpenSpec := { _root_.Go.OpenSpec.ofChange s with cond := some uptoSmall }

/-- 'paydesklaw01.DigitFine', WHERE WHAT IT READS IS OF BULK AT MOST 1048576: true; the input reads as it did. -/
def digitFineUptoRow : OpenClaim := { program := "ytakcggldilbilaadoor", sum := "35d6a575ac25c44ab781b0271e7375d7416619ae0e1cf6fa567afccff4233038", func := "paydesk/paydesklaw01.DigitFine", spec := "digitFine", inPlace := ["internal/abi.NoEscape", "internal/bytealg.MakeNoZero"], unfollowed := true, recurses := true, named := ["internal/strconv.uint64pow10", "math/bits.deBruijn32tab", "math/bits.deBruijn64tab"], apart := false, laid := [("math/bits.deBruijn32tab", laid_math_bits_deBruijn32tab), ("math/bits.deBruijn64tab", laid_math_bits_deBruijn64tab), ("internal/strconv.uint64pow10", laid_internal_strconv_uint64pow10)], narrowed := true }
def DigitFineUptoSaid : Prop := digitFineUptoRow.holds Tryd.pinned (OpenSpec.upto digitFineSpec)

/-- 'paydesklaw04.MessageRight', WHERE WHAT IT READS IS OF BULK AT MOST 1048576: true; the input reads as it did. -/
def messageRightUptoRow : OpenClaim := { program := "ytakcggldilbilaadoor", sum := "35d6a575ac25c44ab781b0271e7375d7416619ae0e1cf6fa567afccff4233038", func := "paydesk/paydesklaw04.MessageRight", spec := "messageRight", inPlace := ["internal/abi.NoEscape", "internal/bytealg.MakeNoZero"], unfollowed := true, recurses := true, named := ["paydesk/field.known", "internal/strconv.uint64pow10", "math/bits.deBruijn32tab", "math/bits.deBruijn64tab"], apart := false, laid := [("math/bits.deBruijn32tab", laid_math_bits_deBruijn32tab), ("math/bits.deBruijn64tab", laid_math_bits_deBruijn64tab), ("internal/strconv.uint64pow10", laid_internal_strconv_uint64pow10), ("paydesk/field.known", laid_paydesk_field_known)], narrowed := true }
def MessageRightUptoSaid : Prop := messageRightUptoRow.holds Tryd.pinned (OpenSpec.upto messageRightSpec)

/-- 'paydesklaw04.MessageBack', WHERE WHAT IT READS IS OF BULK AT MOST 1048576: true; the input reads as it did. -/
def messageBackUptoRow : OpenClaim := { program := "ytakcggldilbilaadoor", sum := "35d6a575ac25c44ab781b0271e7375d7416619ae0e1cf6fa567afccff4233038", func := "paydesk/paydesklaw04.MessageBack", spec := "messageBack", inPlace := ["internal/abi.NoEscape", "internal/bytealg.MakeNoZero"], unfollowed := true, recurses := true, named := ["paydesk/field.known", "internal/strconv.uint64pow10", "math/bits.deBruijn32tab", "math/bits.deBruijn64tab"], apart := false, laid := [("math/bits.deBruijn32tab", laid_math_bits_deBruijn32tab), ("math/bits.deBruijn64tab", laid_math_bits_deBruijn64tab), ("internal/strconv.uint64pow10", laid_internal_strconv_uint64pow10), ("paydesk/field.known", laid_paydesk_field_known)], narrowed := true }
def MessageBackUptoSaid : Prop := messageBackUptoRow.holds Tryd.pinned (OpenSpec.upto messageBackSpec)

/-- 'paydesklaw04.MessageGets', WHERE WHAT IT READS IS OF BULK AT MOST 1048576: true; the input reads as it did. -/
def messageGetsUptoRow : OpenClaim := { program := "ytakcggldilbilaadoor", sum := "35d6a575ac25c44ab781b0271e7375d7416619ae0e1cf6fa567afccff4233038", func := "paydesk/paydesklaw04.MessageGets", spec := "messageGets", inPlace := ["internal/abi.NoEscape", "internal/bytealg.MakeNoZero"], unfollowed := true, recurses := true, named := ["paydesk/field.known", "internal/strconv.uint64pow10", "math/bits.deBruijn32tab", "math/bits.deBruijn64tab"], apart := false, laid := [("math/bits.deBruijn32tab", laid_math_bits_deBruijn32tab), ("math/bits.deBruijn64tab", laid_math_bits_deBruijn64tab), ("internal/strconv.uint64pow10", laid_internal_strconv_uint64pow10), ("paydesk/field.known", laid_paydesk_field_known)], narrowed := true }
def MessageGetsUptoSaid : Prop := messageGetsUptoRow.holds Tryd.pinned (OpenSpec.upto messageGetsSpec)

/-- 'paydesklaw06.DealRight', WHERE WHAT IT READS IS OF BULK AT MOST 1048576: true; the input reads as it did. -/
def dealRightUptoRow : OpenClaim := { program := "ytakcggldilbilaadoor", sum := "35d6a575ac25c44ab781b0271e7375d7416619ae0e1cf6fa567afccff4233038", func := "paydesk/paydesklaw06.DealRight", spec := "dealRight", inPlace := ["internal/abi.NoEscape", "internal/bytealg.MakeNoZero"], unfollowed := true, recurses := true, named := ["paydesk/deal.types", "paydesk/field.known", "internal/strconv.uint64pow10", "math/bits.deBruijn32tab", "math/bits.deBruijn64tab"], apart := false, laid := [("math/bits.deBruijn32tab", laid_math_bits_deBruijn32tab), ("math/bits.deBruijn64tab", laid_math_bits_deBruijn64tab), ("internal/strconv.uint64pow10", laid_internal_strconv_uint64pow10), ("paydesk/field.known", laid_paydesk_field_known), ("paydesk/deal.types", laid_paydesk_deal_types)], narrowed := true }
def DealRightUptoSaid : Prop := dealRightUptoRow.holds Tryd.pinned (OpenSpec.upto dealRightSpec)

/-- 'paydesklaw06.DealBack', WHERE WHAT IT READS IS OF BULK AT MOST 1048576: true; the input reads as it did. -/
def dealBackUptoRow : OpenClaim := { program := "ytakcggldilbilaadoor", sum := "35d6a575ac25c44ab781b0271e7375d7416619ae0e1cf6fa567afccff4233038", func := "paydesk/paydesklaw06.DealBack", spec := "dealBack", inPlace := ["internal/abi.NoEscape", "internal/bytealg.MakeNoZero"], unfollowed := true, recurses := true, named := ["paydesk/deal.types", "paydesk/field.known", "internal/strconv.uint64pow10", "math/bits.deBruijn32tab", "math/bits.deBruijn64tab"], apart := false, laid := [("math/bits.deBruijn32tab", laid_math_bits_deBruijn32tab), ("math/bits.deBruijn64tab", laid_math_bits_deBruijn64tab), ("internal/strconv.uint64pow10", laid_internal_strconv_uint64pow10), ("paydesk/field.known", laid_paydesk_field_known), ("paydesk/deal.types", laid_paydesk_deal_types)], narrowed := true }
def DealBackUptoSaid : Prop := dealBackUptoRow.holds Tryd.pinned (OpenSpec.upto dealBackSpec)

/-- 'paydesklaw06.DealBytes', WHERE WHAT IT READS IS OF BULK AT MOST 1048576: true; the input reads as it did. -/
def dealBytesUptoRow : OpenClaim := { program := "ytakcggldilbilaadoor", sum := "35d6a575ac25c44ab781b0271e7375d7416619ae0e1cf6fa567afccff4233038", func := "paydesk/paydesklaw06.DealBytes", spec := "dealBytes", inPlace := ["internal/abi.NoEscape", "internal/bytealg.MakeNoZero"], unfollowed := true, recurses := true, named := ["paydesk/deal.types", "paydesk/field.known", "internal/strconv.uint64pow10", "math/bits.deBruijn32tab", "math/bits.deBruijn64tab"], apart := false, laid := [("math/bits.deBruijn32tab", laid_math_bits_deBruijn32tab), ("math/bits.deBruijn64tab", laid_math_bits_deBruijn64tab), ("internal/strconv.uint64pow10", laid_internal_strconv_uint64pow10), ("paydesk/field.known", laid_paydesk_field_known), ("paydesk/deal.types", laid_paydesk_deal_types)], narrowed := true }
def DealBytesUptoSaid : Prop := dealBytesUptoRow.holds Tryd.pinned (OpenSpec.upto dealBytesSpec)

/-- 'paydesklaw10.ShardRight', WHERE WHAT IT READS IS OF BULK AT MOST 1048576: true; the input reads as it did. -/
def shardRightUptoRow : OpenClaim := { program := "ytakcggldilbilaadoor", sum := "35d6a575ac25c44ab781b0271e7375d7416619ae0e1cf6fa567afccff4233038", func := "paydesk/paydesklaw10.ShardRight", spec := "shardRight", inPlace := ["slices.overlaps[paydesk/api.Entry]"], unfollowed := true, recurses := true, named := ["paydesk/field.known"], apart := false, laid := [("paydesk/field.known", laid_paydesk_field_known)], narrowed := true }
def ShardRightUptoSaid : Prop := shardRightUptoRow.holds Tryd.pinned (OpenSpec.upto shardRightSpec)

/-- 'paydesklaw10.ShardSwaps', WHERE WHAT IT READS IS OF BULK AT MOST 1048576: true; the input reads as it did. -/
def shardSwapsUptoRow : OpenClaim := { program := "ytakcggldilbilaadoor", sum := "35d6a575ac25c44ab781b0271e7375d7416619ae0e1cf6fa567afccff4233038", func := "paydesk/paydesklaw10.ShardSwaps", spec := "shardSwaps", inPlace := ["slices.overlaps[paydesk/api.Entry]"], unfollowed := true, recurses := true, named := ["paydesk/field.known"], apart := false, laid := [("paydesk/field.known", laid_paydesk_field_known)], narrowed := true }
def ShardSwapsUptoSaid : Prop := shardSwapsUptoRow.holds Tryd.pinned (OpenSpec.upto shardSwapsSpec)

/-- 'paydesklaw15.LedgerRight', WHERE WHAT IT READS IS OF BULK AT MOST 1048576: true; the input reads as it did. -/
def ledgerRightUptoRow : OpenClaim := { program := "ytakcggldilbilaadoor", sum := "35d6a575ac25c44ab781b0271e7375d7416619ae0e1cf6fa567afccff4233038", func := "paydesk/paydesklaw15.LedgerRight", spec := "ledgerRight", inPlace := ["slices.overlaps[paydesk/api.Hold]"], unfollowed := true, recurses := true, named := ["paydesk/deal.types", "paydesk/field.known"], apart := false, laid := [("paydesk/field.known", laid_paydesk_field_known), ("paydesk/deal.types", laid_paydesk_deal_types)], narrowed := true }
def LedgerRightUptoSaid : Prop := ledgerRightUptoRow.holds Tryd.pinned (OpenSpec.upto ledgerRightSpec)

/-- 'paydesklaw15.LedgerOnce', WHERE WHAT IT READS IS OF BULK AT MOST 1048576: true; the input reads as it did. -/
def ledgerOnceUptoRow : OpenClaim := { program := "ytakcggldilbilaadoor", sum := "35d6a575ac25c44ab781b0271e7375d7416619ae0e1cf6fa567afccff4233038", func := "paydesk/paydesklaw15.LedgerOnce", spec := "ledgerOnce", inPlace := ["slices.overlaps[paydesk/api.Hold]"], unfollowed := true, recurses := true, named := ["paydesk/deal.types", "paydesk/field.known"], apart := false, laid := [("paydesk/field.known", laid_paydesk_field_known), ("paydesk/deal.types", laid_paydesk_deal_types)], narrowed := true }
def LedgerOnceUptoSaid : Prop := ledgerOnceUptoRow.holds Tryd.pinned (OpenSpec.upto ledgerOnceSpec)

/-- 'paydesklaw15.LedgerTwice', WHERE WHAT IT READS IS OF BULK AT MOST 1048576: true; the input reads as it did. -/
def ledgerTwiceUptoRow : OpenClaim := { program := "ytakcggldilbilaadoor", sum := "35d6a575ac25c44ab781b0271e7375d7416619ae0e1cf6fa567afccff4233038", func := "paydesk/paydesklaw15.LedgerTwice", spec := "ledgerTwice", inPlace := ["slices.overlaps[paydesk/api.Hold]"], unfollowed := true, recurses := true, named := ["paydesk/deal.types", "paydesk/field.known"], apart := false, laid := [("paydesk/field.known", laid_paydesk_field_known), ("paydesk/deal.types", laid_paydesk_deal_types)], narrowed := true }
def LedgerTwiceUptoSaid : Prop := ledgerTwiceUptoRow.holds Tryd.pinned (OpenSpec.upto ledgerTwiceSpec)

end Rows
end Go.Proofs.YtakcggldilbilaaDoor

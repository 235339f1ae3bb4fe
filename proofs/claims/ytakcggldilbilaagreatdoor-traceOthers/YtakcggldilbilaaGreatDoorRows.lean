/-
  NARROWER THAN 'FOR EVERY INPUT', by the rows' own cells (each row's printed sentence says how): LineRight: laid · LineParts: laid · LineEvents: laid · PostRight: laid · PostBack: laid · TraceOthers: laid.
  DERIVED. THE GIVEN ROWS OF THIS SEAT. 6 by the template 'for every input the law returns true; each argument reads behind the call as it read before'; 0 by the template 'total and deterministic' (their statements: YtakcggldilbilaaGreatDoorTotals.lean).
  GIVEN WITH THE SEED: the statements are not yours to turn. If you find one false, say at which input.
  Laid BY PROGRAM, IN A SANDBOX (cutbox-rows.mjs): the forced cells as the released guide's own fill.sh prints them over the translation da1917e2e762a1bb… (all of the seat's roots in one cut). By AI agents, Wed Nov 11 2026. No macro, syntax, notation, axiom, sorry.
-/
import Derived.Test.YtakcggldilbilaaGreatDoorChecked
import GoSem.Claim
import GoSem.ClaimJoined
import GoSem.ClaimMapViews
import Derived.JoinedTies
import Derived.KernelRfl
namespace Go.Proofs.YtakcggldilbilaaGreatDoor
/- THE CELL 'sum', in the pinned program and in every row, IS THE sha256 OF THE DUMP (.gsa) THAT YtakcggldilbilaaGreatDoorProg.lean LOADS. Nothing in Lean hashes anything: it is a label: what it is worth is what the hold of that sum in a sandbox is worth. -/
noncomputable def Tryz.pinned : Pinned := { name := "ytakcggldilbilaagreatdoor", sum := "da1917e2e762a1bbbcc82f76e1bd0786e80b017daa421d00fb9bfc09aed8b41e", checked := Tryz.checked }
namespace Rows
def none {H : Type} : Left H := { results := [], args := [] }

/- WHAT THE LISTED PACKAGE-LEVEL VARIABLES READ AS WHEN THE CALL BEGINS. Each datum BY PROGRAM (the guide's laid-datum.mjs) off the statement by which the dump's own 'gosem.cut.vars' lays the variable. In a bare row this is a premise. The card (YtakcggldilbilaaGreatDoorCards.lean) ties it to the program's text. -/
def laid_math_bits_deBruijn32tab {H : Type} : DataW H := .agg [.lit (.int .u8 0), .lit (.int .u8 1), .lit (.int .u8 28), .lit (.int .u8 2), .lit (.int .u8 29), .lit (.int .u8 14), .lit (.int .u8 24), .lit (.int .u8 3), .lit (.int .u8 30), .lit (.int .u8 22), .lit (.int .u8 20), .lit (.int .u8 15), .lit (.int .u8 25), .lit (.int .u8 17), .lit (.int .u8 4), .lit (.int .u8 8), .lit (.int .u8 31), .lit (.int .u8 27), .lit (.int .u8 13), .lit (.int .u8 23), .lit (.int .u8 21), .lit (.int .u8 19), .lit (.int .u8 16), .lit (.int .u8 7), .lit (.int .u8 26), .lit (.int .u8 12), .lit (.int .u8 18), .lit (.int .u8 6), .lit (.int .u8 11), .lit (.int .u8 5), .lit (.int .u8 10), .lit (.int .u8 9)]
def laid_math_bits_deBruijn64tab {H : Type} : DataW H := .agg [.lit (.int .u8 0), .lit (.int .u8 1), .lit (.int .u8 56), .lit (.int .u8 2), .lit (.int .u8 57), .lit (.int .u8 49), .lit (.int .u8 28), .lit (.int .u8 3), .lit (.int .u8 61), .lit (.int .u8 58), .lit (.int .u8 42), .lit (.int .u8 50), .lit (.int .u8 38), .lit (.int .u8 29), .lit (.int .u8 17), .lit (.int .u8 4), .lit (.int .u8 62), .lit (.int .u8 47), .lit (.int .u8 59), .lit (.int .u8 36), .lit (.int .u8 45), .lit (.int .u8 43), .lit (.int .u8 51), .lit (.int .u8 22), .lit (.int .u8 53), .lit (.int .u8 39), .lit (.int .u8 33), .lit (.int .u8 30), .lit (.int .u8 24), .lit (.int .u8 18), .lit (.int .u8 12), .lit (.int .u8 5), .lit (.int .u8 63), .lit (.int .u8 55), .lit (.int .u8 48), .lit (.int .u8 27), .lit (.int .u8 60), .lit (.int .u8 41), .lit (.int .u8 37), .lit (.int .u8 16), .lit (.int .u8 46), .lit (.int .u8 35), .lit (.int .u8 44), .lit (.int .u8 21), .lit (.int .u8 52), .lit (.int .u8 32), .lit (.int .u8 23), .lit (.int .u8 11), .lit (.int .u8 54), .lit (.int .u8 26), .lit (.int .u8 40), .lit (.int .u8 15), .lit (.int .u8 34), .lit (.int .u8 20), .lit (.int .u8 31), .lit (.int .u8 10), .lit (.int .u8 25), .lit (.int .u8 14), .lit (.int .u8 19), .lit (.int .u8 9), .lit (.int .u8 13), .lit (.int .u8 8), .lit (.int .u8 7), .lit (.int .u8 6)]
def laid_internal_strconv_uint64pow10 {H : Type} : DataW H := .agg [.lit (.int .u64 1), .lit (.int .u64 10), .lit (.int .u64 100), .lit (.int .u64 1000), .lit (.int .u64 10000), .lit (.int .u64 100000), .lit (.int .u64 1000000), .lit (.int .u64 10000000), .lit (.int .u64 100000000), .lit (.int .u64 1000000000), .lit (.int .u64 10000000000), .lit (.int .u64 100000000000), .lit (.int .u64 1000000000000), .lit (.int .u64 10000000000000), .lit (.int .u64 100000000000000), .lit (.int .u64 1000000000000000), .lit (.int .u64 10000000000000000), .lit (.int .u64 100000000000000000), .lit (.int .u64 1000000000000000000), .lit (.int .u64 10000000000000000000)]
def laid_paydesk_field_known {H : Type} : DataW H := .agg [.agg [.lit (.int .i64 2), .lit (.int .i64 3), .lit (.int .i64 19)], .agg [.lit (.int .i64 3), .lit (.int .i64 1), .lit (.int .i64 6)], .agg [.lit (.int .i64 4), .lit (.int .i64 1), .lit (.int .i64 12)], .agg [.lit (.int .i64 7), .lit (.int .i64 1), .lit (.int .i64 10)], .agg [.lit (.int .i64 11), .lit (.int .i64 1), .lit (.int .i64 6)], .agg [.lit (.int .i64 12), .lit (.int .i64 1), .lit (.int .i64 6)], .agg [.lit (.int .i64 37), .lit (.int .i64 2), .lit (.int .i64 12)], .agg [.lit (.int .i64 38), .lit (.int .i64 2), .lit (.int .i64 6)], .agg [.lit (.int .i64 39), .lit (.int .i64 2), .lit (.int .i64 2)], .agg [.lit (.int .i64 41), .lit (.int .i64 2), .lit (.int .i64 8)], .agg [.lit (.int .i64 44), .lit (.int .i64 4), .lit (.int .i64 25)], .agg [.lit (.int .i64 48), .lit (.int .i64 5), .lit (.int .i64 999)], .agg [.lit (.int .i64 49), .lit (.int .i64 1), .lit (.int .i64 3)], .agg [.lit (.int .i64 90), .lit (.int .i64 1), .lit (.int .i64 42)], .agg [.lit (.int .i64 120), .lit (.int .i64 5), .lit (.int .i64 999)]]
def laid_paydesk_deal_types {H : Type} : DataW H := .agg [.lit (.string [48, 49, 48, 48]), .lit (.string [48, 49, 49, 48]), .lit (.string [48, 52, 48, 48]), .lit (.string [48, 52, 49, 48]), .lit (.string [48, 52, 50, 48]), .lit (.string [48, 52, 50, 49]), .lit (.string [48, 52, 51, 48])]

/-- 'paydesklaw14.LineRight': WHATEVER THE INPUT: true; the input reads as it did. -/
def lineRightSpec : ChangeSpec := { name := "lineRight", fn := fun _ => fun
  | [d1, d2, d3] => { results := [.lit (.bool true)], args := [d1, d2, d3] }
  | _ => none }
def lineRightRow : OpenClaim := { program := "ytakcggldilbilaagreatdoor", sum := "da1917e2e762a1bbbcc82f76e1bd0786e80b017daa421d00fb9bfc09aed8b41e", func := "paydesk/paydesklaw14.LineRight", spec := "lineRight", inPlace := ["internal/abi.NoEscape", "internal/bytealg.MakeNoZero"], unfollowed := true, recurses := true, named := ["paydesk/deal.types", "paydesk/field.known", "internal/strconv.uint64pow10", "math/bits.deBruijn32tab", "math/bits.deBruijn64tab"], apart := false, laid := [("math/bits.deBruijn32tab", laid_math_bits_deBruijn32tab), ("math/bits.deBruijn64tab", laid_math_bits_deBruijn64tab), ("internal/strconv.uint64pow10", laid_internal_strconv_uint64pow10), ("paydesk/field.known", laid_paydesk_field_known), ("paydesk/deal.types", laid_paydesk_deal_types)] }
def LineRightSaid : Prop := lineRightRow.holds Tryz.pinned (OpenSpec.ofChange lineRightSpec)

/-- ITS FALSE NEIGHBOUR: 'it returns false'. Refute it at one input. -/
def lineRightWrong : ChangeSpec := { name := "lineRight", fn := fun _ => fun
  | [d1, d2, d3] => { results := [.lit (.bool false)], args := [d1, d2, d3] }
  | _ => none }
def LineRightWrongFalsely : Prop := lineRightRow.holds Tryz.pinned (OpenSpec.ofChange lineRightWrong)

/-- 'paydesklaw14.LineParts': WHATEVER THE INPUT: true; the input reads as it did. -/
def linePartsSpec : ChangeSpec := { name := "lineParts", fn := fun _ => fun
  | [d1, d2, d3] => { results := [.lit (.bool true)], args := [d1, d2, d3] }
  | _ => none }
def linePartsRow : OpenClaim := { program := "ytakcggldilbilaagreatdoor", sum := "da1917e2e762a1bbbcc82f76e1bd0786e80b017daa421d00fb9bfc09aed8b41e", func := "paydesk/paydesklaw14.LineParts", spec := "lineParts", inPlace := ["internal/abi.NoEscape", "internal/bytealg.MakeNoZero"], unfollowed := true, recurses := true, named := ["paydesk/deal.types", "paydesk/field.known", "internal/strconv.uint64pow10", "math/bits.deBruijn32tab", "math/bits.deBruijn64tab"], apart := false, laid := [("math/bits.deBruijn32tab", laid_math_bits_deBruijn32tab), ("math/bits.deBruijn64tab", laid_math_bits_deBruijn64tab), ("internal/strconv.uint64pow10", laid_internal_strconv_uint64pow10), ("paydesk/field.known", laid_paydesk_field_known), ("paydesk/deal.types", laid_paydesk_deal_types)] }
def LinePartsSaid : Prop := linePartsRow.holds Tryz.pinned (OpenSpec.ofChange linePartsSpec)

/-- ITS FALSE NEIGHBOUR: 'it returns false'. Refute it at one input. -/
def linePartsWrong : ChangeSpec := { name := "lineParts", fn := fun _ => fun
  | [d1, d2, d3] => { results := [.lit (.bool false)], args := [d1, d2, d3] }
  | _ => none }
def LinePartsWrongFalsely : Prop := linePartsRow.holds Tryz.pinned (OpenSpec.ofChange linePartsWrong)

/-- 'paydesklaw14.LineEvents': WHATEVER THE INPUT: true; the input reads as it did. -/
def lineEventsSpec : ChangeSpec := { name := "lineEvents", fn := fun _ => fun
  | [d1, d2] => { results := [.lit (.bool true)], args := [d1, d2] }
  | _ => none }
def lineEventsRow : OpenClaim := { program := "ytakcggldilbilaagreatdoor", sum := "da1917e2e762a1bbbcc82f76e1bd0786e80b017daa421d00fb9bfc09aed8b41e", func := "paydesk/paydesklaw14.LineEvents", spec := "lineEvents", inPlace := ["internal/abi.NoEscape", "internal/bytealg.MakeNoZero"], unfollowed := true, recurses := true, named := ["paydesk/deal.types", "paydesk/field.known", "internal/strconv.uint64pow10", "math/bits.deBruijn32tab", "math/bits.deBruijn64tab"], apart := false, laid := [("math/bits.deBruijn32tab", laid_math_bits_deBruijn32tab), ("math/bits.deBruijn64tab", laid_math_bits_deBruijn64tab), ("internal/strconv.uint64pow10", laid_internal_strconv_uint64pow10), ("paydesk/field.known", laid_paydesk_field_known), ("paydesk/deal.types", laid_paydesk_deal_types)] }
def LineEventsSaid : Prop := lineEventsRow.holds Tryz.pinned (OpenSpec.ofChange lineEventsSpec)

/-- ITS FALSE NEIGHBOUR: 'it returns false'. Refute it at one input. -/
def lineEventsWrong : ChangeSpec := { name := "lineEvents", fn := fun _ => fun
  | [d1, d2] => { results := [.lit (.bool false)], args := [d1, d2] }
  | _ => none }
def LineEventsWrongFalsely : Prop := lineEventsRow.holds Tryz.pinned (OpenSpec.ofChange lineEventsWrong)

/-- 'paydesklaw17.PostRight': WHATEVER THE INPUT: true; the input reads as it did. -/
def postRightSpec : ChangeSpec := { name := "postRight", fn := fun _ => fun
  | [d1, d2, d3, d4] => { results := [.lit (.bool true)], args := [d1, d2, d3, d4] }
  | _ => none }
def postRightRow : OpenClaim := { program := "ytakcggldilbilaagreatdoor", sum := "da1917e2e762a1bbbcc82f76e1bd0786e80b017daa421d00fb9bfc09aed8b41e", func := "paydesk/paydesklaw17.PostRight", spec := "postRight", inPlace := ["internal/abi.NoEscape", "internal/bytealg.MakeNoZero"], unfollowed := true, recurses := true, named := ["paydesk/deal.types", "paydesk/field.known", "internal/strconv.uint64pow10", "math/bits.deBruijn32tab", "math/bits.deBruijn64tab"], apart := false, laid := [("math/bits.deBruijn32tab", laid_math_bits_deBruijn32tab), ("math/bits.deBruijn64tab", laid_math_bits_deBruijn64tab), ("internal/strconv.uint64pow10", laid_internal_strconv_uint64pow10), ("paydesk/field.known", laid_paydesk_field_known), ("paydesk/deal.types", laid_paydesk_deal_types)] }
def PostRightSaid : Prop := postRightRow.holds Tryz.pinned (OpenSpec.ofChange postRightSpec)

/-- ITS FALSE NEIGHBOUR: 'it returns false'. Refute it at one input. -/
def postRightWrong : ChangeSpec := { name := "postRight", fn := fun _ => fun
  | [d1, d2, d3, d4] => { results := [.lit (.bool false)], args := [d1, d2, d3, d4] }
  | _ => none }
def PostRightWrongFalsely : Prop := postRightRow.holds Tryz.pinned (OpenSpec.ofChange postRightWrong)

/-- 'paydesklaw17.PostBack': WHATEVER THE INPUT: true; the input reads as it did. -/
def postBackSpec : ChangeSpec := { name := "postBack", fn := fun _ => fun
  | [d1, d2, d3, d4] => { results := [.lit (.bool true)], args := [d1, d2, d3, d4] }
  | _ => none }
def postBackRow : OpenClaim := { program := "ytakcggldilbilaagreatdoor", sum := "da1917e2e762a1bbbcc82f76e1bd0786e80b017daa421d00fb9bfc09aed8b41e", func := "paydesk/paydesklaw17.PostBack", spec := "postBack", inPlace := ["internal/abi.NoEscape", "internal/bytealg.MakeNoZero"], unfollowed := true, recurses := true, named := ["paydesk/deal.types", "paydesk/field.known", "internal/strconv.uint64pow10", "math/bits.deBruijn32tab", "math/bits.deBruijn64tab"], apart := false, laid := [("math/bits.deBruijn32tab", laid_math_bits_deBruijn32tab), ("math/bits.deBruijn64tab", laid_math_bits_deBruijn64tab), ("internal/strconv.uint64pow10", laid_internal_strconv_uint64pow10), ("paydesk/field.known", laid_paydesk_field_known), ("paydesk/deal.types", laid_paydesk_deal_types)] }
def PostBackSaid : Prop := postBackRow.holds Tryz.pinned (OpenSpec.ofChange postBackSpec)

/-- ITS FALSE NEIGHBOUR: 'it returns false'. Refute it at one input. -/
def postBackWrong : ChangeSpec := { name := "postBack", fn := fun _ => fun
  | [d1, d2, d3, d4] => { results := [.lit (.bool false)], args := [d1, d2, d3, d4] }
  | _ => none }
def PostBackWrongFalsely : Prop := postBackRow.holds Tryz.pinned (OpenSpec.ofChange postBackWrong)

/-- 'paydesklaw21.TraceOthers': WHATEVER THE INPUT: true; the input reads as it did. -/
def traceOthersSpec : ChangeSpec := { name := "traceOthers", fn := fun _ => fun
  | [d1, d2, d3, d4, d5] => { results := [.lit (.bool true)], args := [d1, d2, d3, d4, d5] }
  | _ => none }
def traceOthersRow : OpenClaim := { program := "ytakcggldilbilaagreatdoor", sum := "da1917e2e762a1bbbcc82f76e1bd0786e80b017daa421d00fb9bfc09aed8b41e", func := "paydesk/paydesklaw21.TraceOthers", spec := "traceOthers", inPlace := ["internal/abi.NoEscape", "internal/bytealg.MakeNoZero"], unfollowed := true, recurses := true, named := ["paydesk/deal.types", "paydesk/field.known", "internal/strconv.uint64pow10", "math/bits.deBruijn32tab", "math/bits.deBruijn64tab"], apart := false, laid := [("math/bits.deBruijn32tab", laid_math_bits_deBruijn32tab), ("math/bits.deBruijn64tab", laid_math_bits_deBruijn64tab), ("internal/strconv.uint64pow10", laid_internal_strconv_uint64pow10), ("paydesk/field.known", laid_paydesk_field_known), ("paydesk/deal.types", laid_paydesk_deal_types)] }
def TraceOthersSaid : Prop := traceOthersRow.holds Tryz.pinned (OpenSpec.ofChange traceOthersSpec)

/-- ITS FALSE NEIGHBOUR: 'it returns false'. Refute it at one input. -/
def traceOthersWrong : ChangeSpec := { name := "traceOthers", fn := fun _ => fun
  | [d1, d2, d3, d4, d5] => { results := [.lit (.bool false)], args := [d1, d2, d3, d4, d5] }
  | _ => none }
def TraceOthersWrongFalsely : Prop := traceOthersRow.holds Tryz.pinned (OpenSpec.ofChange traceOthersWrong)

/- THE SECOND FORM. 'bulk': how many values and letters a reading holds, each counted each time it is reached (what is shared counts as often as it is met; a slice's spare places count too). A statement '..UptoSaid' is the law's where the arguments, and the package variables that the reading takes, are together of bulk at most 1048576: NARROWER than '..Said'. Prove '..Said' where nothing that the law and all that it calls make is longer than what came in: it says more and counts as full. Else prove '..UptoSaid'. A law counts once. -/
mutual
def uptoBulk {H : Type} : DataW H → Nat
  | .lit (.string bytes) => bytes.length + 1
  | .lit _ => 1
  | .nil => 1
  | .ptr d => uptoBulk d + 1
  | .slice elems spare => uptoBulkAll elems + uptoBulkAll spare + 1
  | .agg parts => uptoBulkAll parts + 1
  | .iface _ d => uptoBulk d + 1
  | .map entries => uptoBulkEntries entries + 1
  | .held _ => 1
def uptoBulkAll {H : Type} : List (DataW H) → Nat
  | [] => 0
  | d :: r => uptoBulk d + uptoBulkAll r
def uptoBulkEntries {H : Type} : List (Lit × DataW H) → Nat
  | [] => 0
  | x :: r => uptoBulkEntry x + uptoBulkEntries r
def uptoBulkEntry {H : Type} : Lit × DataW H → Nat
  | (.string bytes, d) => bytes.length + uptoBulk d + 1
  | (_, d) => uptoBulk d + 1
 end
def uptoSmall : (H : Type) → List (DataW H) → Bool := fun _ ds => decide (uptoBulkAll ds ≤ 1048576)
def OpenSpec.upto (s : _root_.Go.ChangeSpec) : _root_.Go.OpenSpec := { _root_.Go.OpenSpec.ofChange s with cond := some uptoSmall }

/-- 'paydesklaw14.LineRight', WHERE WHAT IT READS IS OF BULK AT MOST 1048576: true; the input reads as it did. -/
def lineRightUptoRow : OpenClaim := { program := "ytakcggldilbilaagreatdoor", sum := "da1917e2e762a1bbbcc82f76e1bd0786e80b017daa421d00fb9bfc09aed8b41e", func := "paydesk/paydesklaw14.LineRight", spec := "lineRight", inPlace := ["internal/abi.NoEscape", "internal/bytealg.MakeNoZero"], unfollowed := true, recurses := true, named := ["paydesk/deal.types", "paydesk/field.known", "internal/strconv.uint64pow10", "math/bits.deBruijn32tab", "math/bits.deBruijn64tab"], apart := false, laid := [("math/bits.deBruijn32tab", laid_math_bits_deBruijn32tab), ("math/bits.deBruijn64tab", laid_math_bits_deBruijn64tab), ("internal/strconv.uint64pow10", laid_internal_strconv_uint64pow10), ("paydesk/field.known", laid_paydesk_field_known), ("paydesk/deal.types", laid_paydesk_deal_types)], narrowed := true }
def LineRightUptoSaid : Prop := lineRightUptoRow.holds Tryz.pinned (OpenSpec.upto lineRightSpec)

/-- 'paydesklaw14.LineParts', WHERE WHAT IT READS IS OF BULK AT MOST 1048576: true; the input reads as it did. -/
def linePartsUptoRow : OpenClaim := { program := "ytakcggldilbilaagreatdoor", sum := "da1917e2e762a1bbbcc82f76e1bd0786e80b017daa421d00fb9bfc09aed8b41e", func := "paydesk/paydesklaw14.LineParts", spec := "lineParts", inPlace := ["internal/abi.NoEscape", "internal/bytealg.MakeNoZero"], unfollowed := true, recurses := true, named := ["paydesk/deal.types", "paydesk/field.known", "internal/strconv.uint64pow10", "math/bits.deBruijn32tab", "math/bits.deBruijn64tab"], apart := false, laid := [("math/bits.deBruijn32tab", laid_math_bits_deBruijn32tab), ("math/bits.deBruijn64tab", laid_math_bits_deBruijn64tab), ("internal/strconv.uint64pow10", laid_internal_strconv_uint64pow10), ("paydesk/field.known", laid_paydesk_field_known), ("paydesk/deal.types", laid_paydesk_deal_types)], narrowed := true }
def LinePartsUptoSaid : Prop := linePartsUptoRow.holds Tryz.pinned (OpenSpec.upto linePartsSpec)

/-- 'paydesklaw14.LineEvents', WHERE WHAT IT READS IS OF BULK AT MOST 1048576: true; the input reads as it did. -/
def lineEventsUptoRow : OpenClaim := { program := "ytakcggldilbilaagreatdoor", sum := "da1917e2e762a1bbbcc82f76e1bd0786e80b017daa421d00fb9bfc09aed8b41e", func := "paydesk/paydesklaw14.LineEvents", spec := "lineEvents", inPlace := ["internal/abi.NoEscape", "internal/bytealg.MakeNoZero"], unfollowed := true, recurses := true, named := ["paydesk/deal.types", "paydesk/field.known", "internal/strconv.uint64pow10", "math/bits.deBruijn32tab", "math/bits.deBruijn64tab"], apart := false, laid := [("math/bits.deBruijn32tab", laid_math_bits_deBruijn32tab), ("math/bits.deBruijn64tab", laid_math_bits_deBruijn64tab), ("internal/strconv.uint64pow10", laid_internal_strconv_uint64pow10), ("paydesk/field.known", laid_paydesk_field_known), ("paydesk/deal.types", laid_paydesk_deal_types)], narrowed := true }
def LineEventsUptoSaid : Prop := lineEventsUptoRow.holds Tryz.pinned (OpenSpec.upto lineEventsSpec)

/-- 'paydesklaw17.PostRight', WHERE WHAT IT READS IS OF BULK AT MOST 1048576: true; the input reads as it did. -/
def postRightUptoRow : OpenClaim := { program := "ytakcggldilbilaagreatdoor", sum := "da1917e2e762a1bbbcc82f76e1bd0786e80b017daa421d00fb9bfc09aed8b41e", func := "paydesk/paydesklaw17.PostRight", spec := "postRight", inPlace := ["internal/abi.NoEscape", "internal/bytealg.MakeNoZero"], unfollowed := true, recurses := true, named := ["paydesk/deal.types", "paydesk/field.known", "internal/strconv.uint64pow10", "math/bits.deBruijn32tab", "math/bits.deBruijn64tab"], apart := false, laid := [("math/bits.deBruijn32tab", laid_math_bits_deBruijn32tab), ("math/bits.deBruijn64tab", laid_math_bits_deBruijn64tab), ("internal/strconv.uint64pow10", laid_internal_strconv_uint64pow10), ("paydesk/field.known", laid_paydesk_field_known), ("paydesk/deal.types", laid_paydesk_deal_types)], narrowed := true }
def PostRightUptoSaid : Prop := postRightUptoRow.holds Tryz.pinned (OpenSpec.upto postRightSpec)

/-- 'paydesklaw17.PostBack', WHERE WHAT IT READS IS OF BULK AT MOST 1048576: true; the input reads as it did. -/
def postBackUptoRow : OpenClaim := { program := "ytakcggldilbilaagreatdoor", sum := "da1917e2e762a1bbbcc82f76e1bd0786e80b017daa421d00fb9bfc09aed8b41e", func := "paydesk/paydesklaw17.PostBack", spec := "postBack", inPlace := ["internal/abi.NoEscape", "internal/bytealg.MakeNoZero"], unfollowed := true, recurses := true, named := ["paydesk/deal.types", "paydesk/field.known", "internal/strconv.uint64pow10", "math/bits.deBruijn32tab", "math/bits.deBruijn64tab"], apart := false, laid := [("math/bits.deBruijn32tab", laid_math_bits_deBruijn32tab), ("math/bits.deBruijn64tab", laid_math_bits_deBruijn64tab), ("internal/strconv.uint64pow10", laid_internal_strconv_uint64pow10), ("paydesk/field.known", laid_paydesk_field_known), ("paydesk/deal.types", laid_paydesk_deal_types)], narrowed := true }
def PostBackUptoSaid : Prop := postBackUptoRow.holds Tryz.pinned (OpenSpec.upto postBackSpec)

/-- 'paydesklaw21.TraceOthers', WHERE WHAT IT READS IS OF BULK AT MOST 1048576: true; the input reads as it did. -/
def traceOthersUptoRow : OpenClaim := { program := "ytakcggldilbilaagreatdoor", sum := "da1917e2e762a1bbbcc82f76e1bd0786e80b017daa421d00fb9bfc09aed8b41e", func := "paydesk/paydesklaw21.TraceOthers", spec := "traceOthers", inPlace := ["internal/abi.NoEscape", "internal/bytealg.MakeNoZero"], unfollowed := true, recurses := true, named := ["paydesk/deal.types", "paydesk/field.known", "internal/strconv.uint64pow10", "math/bits.deBruijn32tab", "math/bits.deBruijn64tab"], apart := false, laid := [("math/bits.deBruijn32tab", laid_math_bits_deBruijn32tab), ("math/bits.deBruijn64tab", laid_math_bits_deBruijn64tab), ("internal/strconv.uint64pow10", laid_internal_strconv_uint64pow10), ("paydesk/field.known", laid_paydesk_field_known), ("paydesk/deal.types", laid_paydesk_deal_types)], narrowed := true }
def TraceOthersUptoSaid : Prop := traceOthersUptoRow.holds Tryz.pinned (OpenSpec.upto traceOthersSpec)

end Rows
end Go.Proofs.YtakcggldilbilaaGreatDoor

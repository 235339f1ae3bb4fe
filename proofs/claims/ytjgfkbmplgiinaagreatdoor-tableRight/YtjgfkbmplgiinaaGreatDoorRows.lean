/-
  NARROWER THAN 'FOR EVERY INPUT', by the rows' own cells (each row's printed sentence says how): TableRight: laid.
  DERIVED. THE GIVEN ROWS OF THIS SEAT. 1 by the template 'for every input the law returns true; each argument reads behind the call as it read before'; 0 by the template 'total and deterministic' (their statements: YtjgfkbmplgiinaaGreatDoorTotals.lean).
  GIVEN WITH THE SEED: the statements are not yours to turn. If you find one false, say at which input.
  Laid BY PROGRAM, IN A SANDBOX (cutbox-rows.mjs): the forced cells as the released guide's own fill.sh prints them over the translation 2256b6cd1a95876a… (all of the seat's roots in one cut). By AI agents, Wed Nov 11 2026. No macro, syntax, notation, axiom, sorry.
-/
import Derived.Test.YtjgfkbmplgiinaaGreatDoorChecked
import GoSem.Claim
import GoSem.ClaimJoined
import GoSem.ClaimMapViews
import Derived.JoinedTies
import Derived.KernelRfl
namespace Go.Proofs.YtjgfkbmplgiinaaGreatDoor
/- THE CELL 'sum', in the pinned program and in every row, IS THE sha256 OF THE DUMP (.gsa) THAT YtjgfkbmplgiinaaGreatDoorProg.lean LOADS. Nothing in Lean hashes anything: it is a label: what it is worth is what the hold of that sum in a sandbox is worth. -/
noncomputable def Tryz.pinned : Pinned := { name := "ytjgfkbmplgiinaagreatdoor", sum := "2256b6cd1a95876afa791fdda9fa4b51d5d888252a4d63f0d37c1fb41a845114", checked := Tryz.checked }
namespace Rows
def none {H : Type} : Left H := { results := [], args := [] }

/- WHAT THE LISTED PACKAGE-LEVEL VARIABLES READ AS WHEN THE CALL BEGINS. Each datum BY PROGRAM (the guide's laid-datum.mjs) off the statement by which the dump's own 'gosem.cut.vars' lays the variable. In a bare row this is a premise. The card (YtjgfkbmplgiinaaGreatDoorCards.lean) ties it to the program's text. -/
def laid_paydesk_field_known {H : Type} : DataW H := .agg [.agg [.lit (.int .i64 2), .lit (.int .i64 3), .lit (.int .i64 19)], .agg [.lit (.int .i64 3), .lit (.int .i64 1), .lit (.int .i64 6)], .agg [.lit (.int .i64 4), .lit (.int .i64 1), .lit (.int .i64 12)], .agg [.lit (.int .i64 7), .lit (.int .i64 1), .lit (.int .i64 10)], .agg [.lit (.int .i64 11), .lit (.int .i64 1), .lit (.int .i64 6)], .agg [.lit (.int .i64 12), .lit (.int .i64 1), .lit (.int .i64 6)], .agg [.lit (.int .i64 37), .lit (.int .i64 2), .lit (.int .i64 12)], .agg [.lit (.int .i64 38), .lit (.int .i64 2), .lit (.int .i64 6)], .agg [.lit (.int .i64 39), .lit (.int .i64 2), .lit (.int .i64 2)], .agg [.lit (.int .i64 41), .lit (.int .i64 2), .lit (.int .i64 8)], .agg [.lit (.int .i64 44), .lit (.int .i64 4), .lit (.int .i64 25)], .agg [.lit (.int .i64 48), .lit (.int .i64 5), .lit (.int .i64 999)], .agg [.lit (.int .i64 49), .lit (.int .i64 1), .lit (.int .i64 3)], .agg [.lit (.int .i64 90), .lit (.int .i64 1), .lit (.int .i64 42)], .agg [.lit (.int .i64 120), .lit (.int .i64 5), .lit (.int .i64 999)]]

/-- 'paydesklaw11.TableRight': WHATEVER THE INPUT: true; the input reads as it did. -/
def tableRightSpec : ChangeSpec := { name := "tableRight", fn := fun _ => fun
  | [d1, d2, d3, d4, d5] => { results := [.lit (.bool true)], args := [d1, d2, d3, d4, d5] }
  | _ => none }
def tableRightRow : OpenClaim := { program := "ytjgfkbmplgiinaagreatdoor", sum := "2256b6cd1a95876afa791fdda9fa4b51d5d888252a4d63f0d37c1fb41a845114", func := "paydesk/paydesklaw11.TableRight", spec := "tableRight", inPlace := ["slices.overlaps[paydesk/api.Entry]"], unfollowed := true, recurses := true, named := ["paydesk/field.known"], apart := false, laid := [("paydesk/field.known", laid_paydesk_field_known)] }
def TableRightSaid : Prop := tableRightRow.holds Tryz.pinned (OpenSpec.ofChange tableRightSpec)

/-- ITS FALSE NEIGHBOUR: 'it returns false'. Refute it at one input. -/
def tableRightWrong : ChangeSpec := { name := "tableRight", fn := fun _ => fun
  | [d1, d2, d3, d4, d5] => { results := [.lit (.bool false)], args := [d1, d2, d3, d4, d5] }
  | _ => none }
def TableRightWrongFalsely : Prop := tableRightRow.holds Tryz.pinned (OpenSpec.ofChange tableRightWrong)

/- THE SECOND FORM. 'bulk': how many values and letters a reading holds, each counted each time it is reached (what is shared counts as often as it is met; a slice's spare places count too). A statement '..UptoSaid' is the law's where the arguments, and the package variables that the reading takes, are together of bulk at most 1048576: NARROWER than '..Said'. Prove '..Said' where nothing that the law and all that it calls make is longer than what came in: it says more and counts as full. Else prove '..UptoSaid'. A law counts once. -/
mutual
def uptoBulk {H : Type} : DataW H → Nat
  | .lit (.string bytes) => bytes.length + 1
  | .lit _ => 1
  | .nil => 1
  | .ptr d => uptoBulk d + 1
  | .slice elems spare => uptoBulkAll elems + uptoBulkAll spare + 1
  | .agg parts => uptoBulkAll parts + 1
  | .iface _ d => uptoBulk d + 1
  | .map entries => uptoBulkEntries entries + 1
  | .held _ => 1
def uptoBulkAll {H : Type} : List (DataW H) → Nat
  | [] => 0
  | d :: r => uptoBulk d + uptoBulkAll r
def uptoBulkEntries {H : Type} : List (Lit × DataW H) → Nat
  | [] => 0
  | x :: r => uptoBulkEntry x + uptoBulkEntries r
def uptoBulkEntry {H : Type} : Lit × DataW H → Nat
  | (.string bytes, d) => bytes.length + uptoBulk d + 1
  | (_, d) => uptoBulk d + 1
 end
def uptoSmall : (H : Type) → List (DataW H) → Bool := fun _ ds => decide (uptoBulkAll ds ≤ 1048576)
def OpenSpec.upto (s : _root_.Go.ChangeSpec) : _root_.Go.OpenSpec := { _root_.Go.OpenSpec.ofChange s with cond := some uptoSmall }

/-- 'paydesklaw11.TableRight', WHERE WHAT IT READS IS OF BULK AT MOST 1048576: true; the input reads as it did. -/
def tableRightUptoRow : OpenClaim := { program := "ytjgfkbmplgiinaagreatdoor", sum := "2256b6cd1a95876afa791fdda9fa4b51d5d888252a4d63f0d37c1fb41a845114", func := "paydesk/paydesklaw11.TableRight", spec := "tableRight", inPlace := ["slices.overlaps[paydesk/api.Entry]"], unfollowed := true, recurses := true, named := ["paydesk/field.known"], apart := false, laid := [("paydesk/field.known", laid_paydesk_field_known)], narrowed := true }
def TableRightUptoSaid : Prop := tableRightUptoRow.holds Tryz.pinned (OpenSpec.upto tableRightSpec)

end Rows
end Go.Proofs.YtjgfkbmplgiinaaGreatDoor

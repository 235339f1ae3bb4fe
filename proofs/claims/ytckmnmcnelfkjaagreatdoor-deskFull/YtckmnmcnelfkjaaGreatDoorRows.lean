/-
  NARROWER THAN 'FOR EVERY INPUT', by the rows' own cells (each row's printed sentence says how): DeskRight: laid · DeskKeeps: laid · DeskFull: laid.
  DERIVED. THE GIVEN ROWS OF THIS SEAT. 3 by the template 'for every input the law returns true; each argument reads behind the call as it read before'; 0 by the template 'total and deterministic' (their statements: YtckmnmcnelfkjaaGreatDoorTotals.lean).
  GIVEN WITH THE SEED: the statements are not yours to turn. If you find one false, say at which input.
  Laid BY PROGRAM, IN A SANDBOX (cutbox-rows.mjs): the forced cells as the released guide's own fill.sh prints them over the translation 799a481c484034fc… (all of the seat's roots in one cut). By AI agents, Wed Nov 11 2026. No macro, syntax, notation, axiom, sorry.
-/
import Derived.Test.YtckmnmcnelfkjaaGreatDoorChecked
import GoSem.Claim
import GoSem.ClaimJoined
import GoSem.ClaimMapViews
import Derived.JoinedTies
import Derived.KernelRfl
namespace Go.Proofs.YtckmnmcnelfkjaaGreatDoor
/- THE CELL 'sum', in the pinned program and in every row, IS THE sha256 OF THE DUMP (.gsa) THAT YtckmnmcnelfkjaaGreatDoorProg.lean LOADS. Nothing in Lean hashes anything: it is a label: what it is worth is what the hold of that sum in a sandbox is worth. -/
noncomputable def Tryz.pinned : Pinned := { name := "ytckmnmcnelfkjaagreatdoor", sum := "799a481c484034fc8a16b21b03ce5aac7bfeea09bf5a5767b0ae2229f6b7ec57", checked := Tryz.checked }
namespace Rows
def none {H : Type} : Left H := { results := [], args := [] }

/- WHAT THE LISTED PACKAGE-LEVEL VARIABLES READ AS WHEN THE CALL BEGINS. Each datum BY PROGRAM (the guide's laid-datum.mjs) off the statement by which the dump's own 'gosem.cut.vars' lays the variable. In a bare row this is a premise. The card (YtckmnmcnelfkjaaGreatDoorCards.lean) ties it to the program's text. -/
def laid_paydesk_field_known {H : Type} : DataW H := .agg [.agg [.lit (.int .i64 2), .lit (.int .i64 3), .lit (.int .i64 19)], .agg [.lit (.int .i64 3), .lit (.int .i64 1), .lit (.int .i64 6)], .agg [.lit (.int .i64 4), .lit (.int .i64 1), .lit (.int .i64 12)], .agg [.lit (.int .i64 7), .lit (.int .i64 1), .lit (.int .i64 10)], .agg [.lit (.int .i64 11), .lit (.int .i64 1), .lit (.int .i64 6)], .agg [.lit (.int .i64 12), .lit (.int .i64 1), .lit (.int .i64 6)], .agg [.lit (.int .i64 37), .lit (.int .i64 2), .lit (.int .i64 12)], .agg [.lit (.int .i64 38), .lit (.int .i64 2), .lit (.int .i64 6)], .agg [.lit (.int .i64 39), .lit (.int .i64 2), .lit (.int .i64 2)], .agg [.lit (.int .i64 41), .lit (.int .i64 2), .lit (.int .i64 8)], .agg [.lit (.int .i64 44), .lit (.int .i64 4), .lit (.int .i64 25)], .agg [.lit (.int .i64 48), .lit (.int .i64 5), .lit (.int .i64 999)], .agg [.lit (.int .i64 49), .lit (.int .i64 1), .lit (.int .i64 3)], .agg [.lit (.int .i64 90), .lit (.int .i64 1), .lit (.int .i64 42)], .agg [.lit (.int .i64 120), .lit (.int .i64 5), .lit (.int .i64 999)]]
def laid_paydesk_deal_types {H : Type} : DataW H := .agg [.lit (.string [48, 49, 48, 48]), .lit (.string [48, 49, 49, 48]), .lit (.string [48, 52, 48, 48]), .lit (.string [48, 52, 49, 48]), .lit (.string [48, 52, 50, 48]), .lit (.string [48, 52, 50, 49]), .lit (.string [48, 52, 51, 48])]

/-- 'paydesklaw16.DeskRight': WHATEVER THE INPUT: true; the input reads as it did. -/
def deskRightSpec : ChangeSpec := { name := "deskRight", fn := fun _ => fun
  | [d1, d2, d3, d4, d5] => { results := [.lit (.bool true)], args := [d1, d2, d3, d4, d5] }
  | _ => none }
def deskRightRow : OpenClaim := { program := "ytckmnmcnelfkjaagreatdoor", sum := "799a481c484034fc8a16b21b03ce5aac7bfeea09bf5a5767b0ae2229f6b7ec57", func := "paydesk/paydesklaw16.DeskRight", spec := "deskRight", inPlace := ["slices.overlaps[paydesk/api.Entry]", "slices.overlaps[paydesk/api.Timer]"], unfollowed := true, recurses := true, named := ["paydesk/field.known", "paydesk/deal.types"], plainKeys := false, apart := false, laid := [("paydesk/field.known", laid_paydesk_field_known), ("paydesk/deal.types", laid_paydesk_deal_types)] }
def DeskRightSaid : Prop := deskRightRow.holds Tryz.pinned (OpenSpec.ofChange deskRightSpec)

/-- ITS FALSE NEIGHBOUR: 'it returns false'. Refute it at one input. -/
def deskRightWrong : ChangeSpec := { name := "deskRight", fn := fun _ => fun
  | [d1, d2, d3, d4, d5] => { results := [.lit (.bool false)], args := [d1, d2, d3, d4, d5] }
  | _ => none }
def DeskRightWrongFalsely : Prop := deskRightRow.holds Tryz.pinned (OpenSpec.ofChange deskRightWrong)

/-- 'paydesklaw16.DeskKeeps': WHATEVER THE INPUT: true; the input reads as it did. -/
def deskKeepsSpec : ChangeSpec := { name := "deskKeeps", fn := fun _ => fun
  | [d1, d2, d3, d4, d5] => { results := [.lit (.bool true)], args := [d1, d2, d3, d4, d5] }
  | _ => none }
def deskKeepsRow : OpenClaim := { program := "ytckmnmcnelfkjaagreatdoor", sum := "799a481c484034fc8a16b21b03ce5aac7bfeea09bf5a5767b0ae2229f6b7ec57", func := "paydesk/paydesklaw16.DeskKeeps", spec := "deskKeeps", inPlace := ["slices.overlaps[paydesk/api.Entry]", "slices.overlaps[paydesk/api.Timer]"], unfollowed := true, recurses := true, named := ["paydesk/field.known", "paydesk/deal.types"], plainKeys := false, apart := false, laid := [("paydesk/field.known", laid_paydesk_field_known), ("paydesk/deal.types", laid_paydesk_deal_types)] }
def DeskKeepsSaid : Prop := deskKeepsRow.holds Tryz.pinned (OpenSpec.ofChange deskKeepsSpec)

/-- ITS FALSE NEIGHBOUR: 'it returns false'. Refute it at one input. -/
def deskKeepsWrong : ChangeSpec := { name := "deskKeeps", fn := fun _ => fun
  | [d1, d2, d3, d4, d5] => { results := [.lit (.bool false)], args := [d1, d2, d3, d4, d5] }
  | _ => none }
def DeskKeepsWrongFalsely : Prop := deskKeepsRow.holds Tryz.pinned (OpenSpec.ofChange deskKeepsWrong)

/-- 'paydesklaw16.DeskFull': WHATEVER THE INPUT: true; the input reads as it did. -/
def deskFullSpec : ChangeSpec := { name := "deskFull", fn := fun _ => fun
  | [d1, d2, d3] => { results := [.lit (.bool true)], args := [d1, d2, d3] }
  | _ => none }
def deskFullRow : OpenClaim := { program := "ytckmnmcnelfkjaagreatdoor", sum := "799a481c484034fc8a16b21b03ce5aac7bfeea09bf5a5767b0ae2229f6b7ec57", func := "paydesk/paydesklaw16.DeskFull", spec := "deskFull", inPlace := ["slices.overlaps[paydesk/api.Entry]", "slices.overlaps[paydesk/api.Timer]"], unfollowed := true, recurses := true, named := ["paydesk/field.known", "paydesk/deal.types"], plainKeys := false, apart := false, laid := [("paydesk/field.known", laid_paydesk_field_known), ("paydesk/deal.types", laid_paydesk_deal_types)] }
def DeskFullSaid : Prop := deskFullRow.holds Tryz.pinned (OpenSpec.ofChange deskFullSpec)

/-- ITS FALSE NEIGHBOUR: 'it returns false'. Refute it at one input. -/
def deskFullWrong : ChangeSpec := { name := "deskFull", fn := fun _ => fun
  | [d1, d2, d3] => { results := [.lit (.bool false)], args := [d1, d2, d3] }
  | _ => none }
def DeskFullWrongFalsely : Prop := deskFullRow.holds Tryz.pinned (OpenSpec.ofChange deskFullWrong)

/- THE SECOND FORM. 'bulk': how many values and letters a reading holds, each counted each time it is reached (what is shared counts as often as it is met; a slice's spare places count too). A statement '..UptoSaid' is the law's where the arguments, and the package variables that the reading takes, are together of bulk at most 1048576: NARROWER than '..Said'. Prove '..Said' where nothing that the law and all that it calls make is longer than what came in: it says more and counts as full. Else prove '..UptoSaid'. A law counts once. -/
mutual
def uptoBulk {H : Type} : DataW H → Nat
  | .lit (.string bytes) => bytes.length + 1
  | .lit _ => 1
  | .nil => 1
  | .ptr d => uptoBulk d + 1
  | .slice elems spare => uptoBulkAll elems + uptoBulkAll spare + 1
  | .agg parts => uptoBulkAll parts + 1
  | .iface _ d => uptoBulk d + 1
  | .map entries => uptoBulkEntries entries + 1
  | .held _ => 1
def uptoBulkAll {H : Type} : List (DataW H) → Nat
  | [] => 0
  | d :: r => uptoBulk d + uptoBulkAll r
def uptoBulkEntries {H : Type} : List (Lit × DataW H) → Nat
  | [] => 0
  | x :: r => uptoBulkEntry x + uptoBulkEntries r
def uptoBulkEntry {H : Type} : Lit × DataW H → Nat
  | (.string bytes, d) => bytes.length + uptoBulk d + 1
  | (_, d) => uptoBulk d + 1
 end
def uptoSmall : (H : Type) → List (DataW H) → Bool := fun _ ds => decide (uptoBulkAll ds ≤ 1048576)
def OpenSpec.upto (s : _root_.Go.ChangeSpec) : _root_.Go.OpenSpec := { _root_.Go.OpenSpec.ofChange s with cond := some uptoSmall }

/-- 'paydesklaw16.DeskRight', WHERE WHAT IT READS IS OF BULK AT MOST 1048576: true; the input reads as it did. -/
def deskRightUptoRow : OpenClaim := { program := "ytckmnmcnelfkjaagreatdoor", sum := "799a481c484034fc8a16b21b03ce5aac7bfeea09bf5a5767b0ae2229f6b7ec57", func := "paydesk/paydesklaw16.DeskRight", spec := "deskRight", inPlace := ["slices.overlaps[paydesk/api.Entry]", "slices.overlaps[paydesk/api.Timer]"], unfollowed := true, recurses := true, named := ["paydesk/field.known", "paydesk/deal.types"], plainKeys := false, apart := false, laid := [("paydesk/field.known", laid_paydesk_field_known), ("paydesk/deal.types", laid_paydesk_deal_types)], narrowed := true }
def DeskRightUptoSaid : Prop := deskRightUptoRow.holds Tryz.pinned (OpenSpec.upto deskRightSpec)

/-- 'paydesklaw16.DeskKeeps', WHERE WHAT IT READS IS OF BULK AT MOST 1048576: true; the input reads as it did. -/
def deskKeepsUptoRow : OpenClaim := { program := "ytckmnmcnelfkjaagreatdoor", sum := "799a481c484034fc8a16b21b03ce5aac7bfeea09bf5a5767b0ae2229f6b7ec57", func := "paydesk/paydesklaw16.DeskKeeps", spec := "deskKeeps", inPlace := ["slices.overlaps[paydesk/api.Entry]", "slices.overlaps[paydesk/api.Timer]"], unfollowed := true, recurses := true, named := ["paydesk/field.known", "paydesk/deal.types"], plainKeys := false, apart := false, laid := [("paydesk/field.known", laid_paydesk_field_known), ("paydesk/deal.types", laid_paydesk_deal_types)], narrowed := true }
def DeskKeepsUptoSaid : Prop := deskKeepsUptoRow.holds Tryz.pinned (OpenSpec.upto deskKeepsSpec)

/-- 'paydesklaw16.DeskFull', WHERE WHAT IT READS IS OF BULK AT MOST 1048576: true; the input reads as it did. -/
def deskFullUptoRow : OpenClaim := { program := "ytckmnmcnelfkjaagreatdoor", sum := "799a481c484034fc8a16b21b03ce5aac7bfeea09bf5a5767b0ae2229f6b7ec57", func := "paydesk/paydesklaw16.DeskFull", spec := "deskFull", inPlace := ["slices.overlaps[paydesk/api.Entry]", "slices.overlaps[paydesk/api.Timer]"], unfollowed := true, recurses := true, named := ["paydesk/field.known", "paydesk/deal.types"], plainKeys := false, apart := false, laid := [("paydesk/field.known", laid_paydesk_field_known), ("paydesk/deal.types", laid_paydesk_deal_types)], narrowed := true }
def DeskFullUptoSaid : Prop := deskFullUptoRow.holds Tryz.pinned (OpenSpec.upto deskFullSpec)

end Rows
end Go.Proofs.YtckmnmcnelfkjaaGreatDoor

/-
  No cell of these rows narrows 'for every input' (looked for: loops, veiled, ifaces, maps, wideKeys, modest, calm, conditions, laid).
  DERIVED. THE GIVEN ROWS OF THIS SEAT. 3 by the template 'for every input the law returns true; each argument reads behind the call as it read before'; 0 by the template 'total and deterministic' (their statements: YtnndgblnbhlplaaTotals.lean).
  GIVEN WITH THE SEED: the statements are not yours to turn. If you find one false, say at which input.
  Laid BY PROGRAM, IN A SANDBOX (cutbox-rows.mjs): the forced cells as the released guide's own fill.sh prints them over the translation 791c99a289d66e3f… (all of the seat's roots in one cut). By AI agents, Wed Nov 11 2026. No macro, syntax, notation, axiom, sorry.
-/
import Derived.Test.YtnndgblnbhlplaaChecked
import GoSem.Claim
import GoSem.ClaimJoined
import GoSem.ClaimMapViews
import Derived.JoinedTies
import Derived.KernelRfl
namespace Go.Proofs.Ytnndgblnbhlplaa
/- THE CELL 'sum', in the pinned program and in every row, IS THE sha256 OF THE DUMP (.gsa) THAT YtnndgblnbhlplaaProg.lean LOADS. Nothing in Lean hashes anything: it is a label: what it is worth is what the hold of that sum in a sandbox is worth. -/
noncomputable def Try.pinned : Pinned := { name := "ytnndgblnbhlplaa", sum := "791c99a289d66e3fcf4ac4b48a35c655af83f778144aebdf97779158d7efd5de", checked := Try.checked }
namespace Rows
def none {H : Type} : Left H := { results := [], args := [] }

/-- 'paydesklaw09.WheelRight': WHATEVER THE INPUT: true; the input reads as it did. -/
def wheelRightSpec : ChangeSpec := { name := "wheelRight", fn := fun _ => fun
  | [d1, d2, d3, d4] => { results := [.lit (.bool true)], args := [d1, d2, d3, d4] }
  | _ => none }
def wheelRightRow : OpenClaim := { program := "ytnndgblnbhlplaa", sum := "791c99a289d66e3fcf4ac4b48a35c655af83f778144aebdf97779158d7efd5de", func := "paydesk/paydesklaw09.WheelRight", spec := "wheelRight", inPlace := ["slices.overlaps[paydesk/api.Timer]"], unfollowed := true, recurses := true, plainKeys := false, apart := false }
def WheelRightSaid : Prop := wheelRightRow.holds Try.pinned (OpenSpec.ofChange wheelRightSpec)

/-- ITS FALSE NEIGHBOUR: 'it returns false'. Refute it at one input. -/
def wheelRightWrong : ChangeSpec := { name := "wheelRight", fn := fun _ => fun
  | [d1, d2, d3, d4] => { results := [.lit (.bool false)], args := [d1, d2, d3, d4] }
  | _ => none }
def WheelRightWrongFalsely : Prop := wheelRightRow.holds Try.pinned (OpenSpec.ofChange wheelRightWrong)

/-- 'paydesklaw09.WheelTicks': WHATEVER THE INPUT: true; the input reads as it did. -/
def wheelTicksSpec : ChangeSpec := { name := "wheelTicks", fn := fun _ => fun
  | [d1, d2] => { results := [.lit (.bool true)], args := [d1, d2] }
  | _ => none }
def wheelTicksRow : OpenClaim := { program := "ytnndgblnbhlplaa", sum := "791c99a289d66e3fcf4ac4b48a35c655af83f778144aebdf97779158d7efd5de", func := "paydesk/paydesklaw09.WheelTicks", spec := "wheelTicks", inPlace := ["slices.overlaps[paydesk/api.Timer]"], unfollowed := true, recurses := true, plainKeys := false, apart := false }
def WheelTicksSaid : Prop := wheelTicksRow.holds Try.pinned (OpenSpec.ofChange wheelTicksSpec)

/-- ITS FALSE NEIGHBOUR: 'it returns false'. Refute it at one input. -/
def wheelTicksWrong : ChangeSpec := { name := "wheelTicks", fn := fun _ => fun
  | [d1, d2] => { results := [.lit (.bool false)], args := [d1, d2] }
  | _ => none }
def WheelTicksWrongFalsely : Prop := wheelTicksRow.holds Try.pinned (OpenSpec.ofChange wheelTicksWrong)

/-- 'paydesklaw09.WheelFull': WHATEVER THE INPUT: true; the input reads as it did. -/
def wheelFullSpec : ChangeSpec := { name := "wheelFull", fn := fun _ => fun
  | [d1, d2, d3, d4] => { results := [.lit (.bool true)], args := [d1, d2, d3, d4] }
  | _ => none }
def wheelFullRow : OpenClaim := { program := "ytnndgblnbhlplaa", sum := "791c99a289d66e3fcf4ac4b48a35c655af83f778144aebdf97779158d7efd5de", func := "paydesk/paydesklaw09.WheelFull", spec := "wheelFull", inPlace := ["slices.overlaps[paydesk/api.Timer]"], unfollowed := true, recurses := true, plainKeys := false, apart := false }
def WheelFullSaid : Prop := wheelFullRow.holds Try.pinned (OpenSpec.ofChange wheelFullSpec)

/-- ITS FALSE NEIGHBOUR: 'it returns false'. Refute it at one input. -/
def wheelFullWrong : ChangeSpec := { name := "wheelFull", fn := fun _ => fun
  | [d1, d2, d3, d4] => { results := [.lit (.bool false)], args := [d1, d2, d3, d4] }
  | _ => none }
def WheelFullWrongFalsely : Prop := wheelFullRow.holds Try.pinned (OpenSpec.ofChange wheelFullWrong)

/- THE SECOND FORM. 'bulk': how many values and letters a reading holds, each counted each time it is reached (what is shared counts as often as it is met; a slice's spare places count too). A statement '..UptoSaid' is the law's where the arguments, and the package variables that the reading takes, are together of bulk at most 1048576: NARROWER than '..Said'. Prove '..Said' where nothing that the law and all that it calls make is longer than what came in: it says more and counts as full. Else prove '..UptoSaid'. A law counts once. -/
mutual
def uptoBulk {H : Type} : DataW H → Nat
  | .lit (.string bytes) => bytes.length + 1
  | .lit _ => 1
  | .nil => 1
  | .ptr d => uptoBulk d + 1
  | .slice elems spare => uptoBulkAll elems + uptoBulkAll spare + 1
  | .agg parts => uptoBulkAll parts + 1
  | .iface _ d => uptoBulk d + 1
  | .map entries => uptoBulkEntries entries + 1
  | .held _ => 1
def uptoBulkAll {H : Type} : List (DataW H) → Nat
  | [] => 0
  | d :: r => uptoBulk d + uptoBulkAll r
def uptoBulkEntries {H : Type} : List (Lit × DataW H) → Nat
  | [] => 0
  | x :: r => uptoBulkEntry x + uptoBulkEntries r
def uptoBulkEntry {H : Type} : Lit × DataW H → Nat
  | (.string bytes, d) => bytes.length + uptoBulk d + 1
  | (_, d) => uptoBulk d + 1
 end
def uptoSmall : (H : Type) → List (DataW H) → Bool := fun _ ds => decide (uptoBulkAll ds ≤ 1048576)
def OpenSpec.upto (s : _root_.Go.ChangeSpec) : _root_.Go.OpenSpec := { _root_.Go.OpenSpec.ofChange s with cond := some uptoSmall }

/-- 'paydesklaw09.WheelRight', WHERE WHAT IT READS IS OF BULK AT MOST 1048576: true; the input reads as it did. -/
def wheelRightUptoRow : OpenClaim := { program := "ytnndgblnbhlplaa", sum := "791c99a289d66e3fcf4ac4b48a35c655af83f778144aebdf97779158d7efd5de", func := "paydesk/paydesklaw09.WheelRight", spec := "wheelRight", inPlace := ["slices.overlaps[paydesk/api.Timer]"], unfollowed := true, recurses := true, plainKeys := false, apart := false, narrowed := true }
def WheelRightUptoSaid : Prop := wheelRightUptoRow.holds Try.pinned (OpenSpec.upto wheelRightSpec)

/-- 'paydesklaw09.WheelTicks', WHERE WHAT IT READS IS OF BULK AT MOST 1048576: true; the input reads as it did. -/
def wheelTicksUptoRow : OpenClaim := { program := "ytnndgblnbhlplaa", sum := "791c99a289d66e3fcf4ac4b48a35c655af83f778144aebdf97779158d7efd5de", func := "paydesk/paydesklaw09.WheelTicks", spec := "wheelTicks", inPlace := ["slices.overlaps[paydesk/api.Timer]"], unfollowed := true, recurses := true, plainKeys := false, apart := false, narrowed := true }
def WheelTicksUptoSaid : Prop := wheelTicksUptoRow.holds Try.pinned (OpenSpec.upto wheelTicksSpec)

/-- 'paydesklaw09.WheelFull', WHERE WHAT IT READS IS OF BULK AT MOST 1048576: true; the input reads as it did. -/
def wheelFullUptoRow : OpenClaim := { program := "ytnndgblnbhlplaa", sum := "791c99a289d66e3fcf4ac4b48a35c655af83f778144aebdf97779158d7efd5de", func := "paydesk/paydesklaw09.WheelFull", spec := "wheelFull", inPlace := ["slices.overlaps[paydesk/api.Timer]"], unfollowed := true, recurses := true, plainKeys := false, apart := false, narrowed := true }
def WheelFullUptoSaid : Prop := wheelFullUptoRow.holds Try.pinned (OpenSpec.upto wheelFullSpec)

end Rows
end Go.Proofs.Ytnndgblnbhlplaa

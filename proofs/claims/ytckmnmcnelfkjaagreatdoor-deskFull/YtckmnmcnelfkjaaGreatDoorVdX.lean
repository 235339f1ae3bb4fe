/- Operations that are carried out in the text's order alone. -/
import Derived.Test.YtckmnmcnelfkjaaGreatDoorVdFrz
import Derived.Test.YtckmnmcnelfkjaaGreatDoorVdW
set_option linter.unusedVariables false
set_option linter.unusedSimpArgs false
namespace Go.Vd
open Go.RowKit
section
variable {P:Program} {o:Oper} {a:Act} {w:World} {ρ:Nat->Value} {U:Nat->Prop} {c:Ctx} {s:St}
end
end Go.Vd

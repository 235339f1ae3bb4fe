/- What came in: bytes, and rows of bytes, as rows of things. -/
import Derived.Test.YtckmnmcnelfkjaaGreatDoorVdRow
import Derived.Test.YtckmnmcnelfkjaaGreatDoorVdSimp
import Derived.Deep.Matrix
set_option linter.unusedVariables false
set_option linter.unusedSimpArgs false
namespace Go.Vd
open Go.Proofs Go.ChangeShapes Go.WideShapes Go.ChangeAt Go.RowKit Go.Joins
section
variable {H:Type} {enc:TypeId×Value->H} {P:Program}
end
end Go.Vd

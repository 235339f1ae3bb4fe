/- Numbers and bits, as the conditions ask for them. -/
import Derived.Test.YtckmnmcnelfkjaaGreatDoorVdSeat
import Derived.Laws.Bits64b
set_option linter.unusedVariables false
set_option linter.unusedSimpArgs false
namespace Go.Vd
theorem w64{n:Int}(h: -9223372036854775808<=n∧n<=9223372036854775807):IntKind.i64.wrap n=n:=by rw [IntKind.wrap_i64];omega
end Go.Vd

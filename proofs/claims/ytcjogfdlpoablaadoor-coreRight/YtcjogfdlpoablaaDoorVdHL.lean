/- The digits' contracts that lean on no package variable: what stands in VdH1's way where the table of tens isn't known. -/
import Derived.Test.YtcjogfdlpoablaaDoorVdG3
import Derived.Test.YtcjogfdlpoablaaDoorVdKM
set_option linter.unusedVariables false
set_option linter.unusedSimpArgs false
set_option maxRecDepth 100000
set_option maxHeartbeats 4000000
namespace Go.Vd
open Go.Proofs
noncomputable def c_gFine : Ct := fun A args => match args with
  | [.str L] => some (some (A.tp fun _ => L.length ≤ 100000), .bool (A.tb fun _ => lFine L))
  | _ => none
noncomputable def c_rFine : Ct := fun A args => match args with
  | [.str L] => some (some (A.tp fun _ => L.length ≤ 100000), .bool (A.tb fun _ => lFine L))
  | _ => none
noncomputable def ggL : Ar → Pu := addC 88 c_gFine (addC 79 c_rFine (gg2))
theorem ggL_ok : PuOk Tryd.prog gl0 (ggL std) := by
  refine addC_ok (addC_ok (gg2_ok) ⟨_, Tryd.func79, rfl, by decide⟩ ?_) ⟨_, Tryd.func88, rfl, by decide⟩ ?_
  · intro args p r h hp
    unfold c_rFine at h
    split at h <;> cases h
    exact good_rFine _ hp
  · intro args p r h hp
    unfold c_gFine at h
    split at h <;> cases h
    exact good_gFine _ hp
end Go.Vd

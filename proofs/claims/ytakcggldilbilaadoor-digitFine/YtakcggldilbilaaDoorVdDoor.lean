/- What a door's rows say of the package's variables: the digits' laws. -/
import Derived.Test.YtakcggldilbilaaDoorRows
import Derived.Test.YtakcggldilbilaaDoorCards
import Derived.Test.YtakcggldilbilaaDoorTie
import Derived.Test.YtakcggldilbilaaDoorVdG7
import Derived.Test.YtakcggldilbilaaDoorVdWf
import Derived.ProofKit
import Derived.LaidMore
import Derived.OpenShut
import Derived.Stop.Joined
import Derived.SevenTiedAt
import Derived.Lib.LaidTab
set_option linter.unusedVariables false
set_option maxRecDepth 100000
namespace Go.Vd
open Go.Proofs
/-- What the table gives of the package's variables. -/
theorem gl0_tab {w : World} (h : Lib.TabIs Tryd.prog w "internal/strconv.uint64pow10" .u64 Lib.pow10Tab) : GlOk gl0 w fun _ => False := by
  have hne : ∀ g, g ≠ 2 → gl0 g = .val (.pointer (some ⟨g, 0, none⟩)) := fun g hg => by
    unfold gl0
    split
    · exact absurd rfl hg
    · rfl
  refine ⟨fun g ρ N => ?_, fun g k f e => ?_⟩
  · by_cases hg : g = 2
    · subst hg
      show Rel w ρ (fun _ => False) N _ (.rop 20 fun j => .int .u64 (Lib.pow10Tab.getD j 0))
      refine .rop ⟨2, 0, none⟩ 20 _ (fun j => .int .u64 (Lib.pow10Tab.getD j 0)) rfl (fun j hj => ⟨?_, rfl, fun e => e⟩) (fun j _ => .int _ _)
      rw [Lib.add_plain, Nat.zero_add]
      exact h.cell gTab j (by rw [Lib.pow10Tab_length]; exact hj)
    · rw [hne g hg]; exact .val _
  · by_cases hg : g = 2
    · subst hg
      have e2 : (SV.rop 20 fun j => .int .u64 (Lib.pow10Tab.getD j 0)) = .rop k f := e
      cases e2
      refine ⟨?_, fun e => e⟩
      unfold Lib.TabIs World.var? at h
      rw [gTab] at h
      simp only [Option.bind_some] at h
      split at h
      · rename_i cs t b hc
        injection h with h
        exact ⟨cs, t, b, hc, by rw [h]; simp [Lib.pow10Tab_length]⟩
      · cases h
    · rw [hne g hg] at e; cases e
end Go.Vd
namespace Go.Proofs.YtakcggldilbilaaDoor
open Go.ChangeShapes Go.WideShapes Go.ChangeAt Go.ChangeMaps Go.RowKit Go.Joins
def laidL : List (String × DataW Unit) := [("math/bits.deBruijn32tab", Rows.laid_math_bits_deBruijn32tab), ("math/bits.deBruijn64tab", Rows.laid_math_bits_deBruijn64tab), ("internal/strconv.uint64pow10", Rows.laid_internal_strconv_uint64pow10)]
theorem Tryd.own : ownKnob Tryd.prog.godebug = none := by kernel_rfl
theorem Tryd.laidOut : laidOutB Tryd.prog = true := by kernel_rfl
theorem tTab : (Tryd.prog.globals[2]?).map (·.type) = some 248 := by kernel_rfl
theorem cTab : Tryd.prog.cellsOf 248 = 20 := by kernel_rfl
theorem cTabE : Tryd.prog.cellsOf 49 = 1 := by kernel_rfl
theorem dTab : (Rows.laid_internal_strconv_uint64pow10 : DataW Unit) = Lib.tabData .u64 Lib.pow10Tab := by kernel_rfl
theorem door_met (os : Os) (args : Array Value) : laidMetH Tryd.prog laidL ((World.doorLaid Tryd.prog 2000 os).forCall (fun _ _ => 0) ⟨#[], args, []⟩).memory :=
  laidMetH_of_parts3 (fuel := 8) (laidMet_of_run' 8 (by kernel_rfl) (by kernel_rfl)) (by kernel_rfl) (by kernel_rfl)
theorem laid_known {W : World} (h : laidMetH Tryd.prog laidL W) : Lib.TabIs Tryd.prog W "internal/strconv.uint64pow10" .u64 Lib.pow10Tab := by
  rw [MakeChecks.laidMetH_plain _ _ _ (by kernel_rfl)] at h
  obtain ⟨ps, ⟨_, _, _, _, _, _, _, _, _, _, ⟨_, _, _, _, _, _, _, _, _, _, ⟨g2, t2, cs2, f2, p2, q2, hg2, ht2, hv2, hd2, _, _⟩, _⟩, _⟩, _, _⟩ := h
  obtain rfl := Option.some.inj (Vd.gTab.symm.trans hg2)
  obtain rfl := Option.some.inj (tTab.symm.trans ht2)
  unfold Lib.TabIs
  rw [dTab] at hd2
  rw [hv2, ← Lib.cells_of_tab Tryd.underlying248 Tryd.underlying49 cTabE cTab hd2]

end Go.Proofs.YtakcggldilbilaaDoor

/- What came in: bytes, and rows of bytes, as rows of things. -/
import Derived.Test.YtnndgblnbhlplaaVdRow
import Derived.Test.YtnndgblnbhlplaaVdSimp
import Derived.Deep.Matrix
set_option linter.unusedVariables false
set_option linter.unusedSimpArgs false
namespace Go.Vd
open Go.Proofs Go.ChangeShapes Go.WideShapes Go.ChangeAt Go.RowKit Go.Joins

section
variable {H : Type} {enc : TypeId × Value → H} {P : Program}

end
/-- A struct of an integer and a slice. -/
theorem rel_agg2 {w : World} {ρ : Nat → Value} {rw N : Nat → Prop} {u v : Value} {s t : SV} (h1 : one u) (h2 : one v) (hs : Rel w ρ rw N u s) (ht : Rel w ρ rw N v t) : Rel w ρ rw N (.agg #[u, v]) (.agg [s, t]) := by
  refine .agg0 _ _ rfl ?_ ?_
  · intro x hx
    simp at hx
    rcases hx with rfl | rfl <;> assumption
  · intro i x y hx hy
    match i with
    | 0 => simp at hx hy; subst hx hy; exact hs
    | 1 => simp at hx hy; subst hx hy; exact ht
    | n + 2 => simp at hx
end Go.Vd


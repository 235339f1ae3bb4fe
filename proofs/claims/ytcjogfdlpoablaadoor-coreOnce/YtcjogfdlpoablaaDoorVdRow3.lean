/- What came in: a struct of one field. -/
import Derived.Test.YtcjogfdlpoablaaDoorVdRow2
import Derived.Lib.SmallJoins
set_option linter.unusedVariables false
namespace Go.Vd
open Go.Proofs Go.ChangeShapes Go.WideShapes Go.ChangeAt Go.RowKit Go.Joins Go.Deep Go.WideElems
variable {H : Type} {enc : TypeId × Value → H} {P : Program}
theorem one_of {α : Type} {cs : Array α} (h : cs.size = 1) : ∃ c, cs = #[c] := by
  obtain ⟨l⟩ := cs
  match l, h with
  | [c], _ => exact ⟨c, rfl⟩
theorem open_one {W : World} {r : Reach} {b0 base : Nat} {spare : Nat → Bool} {held : Bool} {t : TypeId} {f : Field} {v : Value} {d : DataW H} {p : List MemPlace} (hs : P.underlying t = some (.struct #[f])) (hone : oneCellFields P #[f] = true) (hC : P.cellsOf t = 1)
    (hv : Value.okWide P W r b0 t v) (h : DataW.Trod enc P W base spare held t v d p) :
    ∃ (u : Value) (y : DataW H × List MemPlace) (n : Nat), v = .agg #[u] ∧ d = .agg [y.1] ∧ p = y.2 ∧ DataW.trod enc P W base spare held n f.type [u] = some y := by
  obtain ⟨cs, rfl, hsz⟩ := okWide_struct hs hv
  obtain ⟨u, rfl⟩ := one_of (hsz.trans hC)
  obtain ⟨fuel, hf⟩ := h
  obtain ⟨xs, n, _, hx, hl, hlen, hg⟩ := DataW.trod_struct hs hf
  obtain ⟨o, k⟩ := hone_of hone 0 f rfl
  match xs, hlen with
  | [y], _ =>
    have h0 := hg 0 f rfl
    simp at hx h0
    exact ⟨u, y, n, rfl, hx.1, hx.2, by simpa [Value.cells, o, k] using h0⟩
end Go.Vd

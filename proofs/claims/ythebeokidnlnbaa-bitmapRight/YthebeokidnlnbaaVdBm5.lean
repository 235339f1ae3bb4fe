/- Lists alike, and the fixed answer. -/
import Derived.Test.YthebeokidnlnbaaVdBm4
set_option linter.unusedVariables false
set_option linter.unusedSimpArgs false
set_option maxRecDepth 100000
set_option maxHeartbeats 1000000
namespace Go.Vd
open Go.Proofs
def r15 (A : Ar) (a b : Unit → List Int) : SV := .bool (A.tb fun _ => decide (a () = b ()))
theorem good15 (a b : List Int) (ha : a.length ≤ 9223372036854775807) : GoodP Try.prog gl0 15 [zsS std fun _ => a, zsS std fun _ => b] (r15 std (fun _ => a) fun _ => b) := by
  refine fn_sound' (T := seatT) (G := noC) (X := noX) seatT_ok noC_ok noX_ok noI_ok mixed Try.func15 .one (fun A => [zsS A fun _ => a, zsS A fun _ => b]) (fun A => r15 A (fun _ => a) fun _ => b) fun A hA => ?_
  cbv
  repeat' (first | with_reducible exact True.intro | with_reducible exact dr_ok hA (by kernel_rfl) | with_reducible refine And.intro ?_ ?_ | (intro hc; cbv))
  · subst hA; simp [std] at *; intro h; subst h; omega
  · have hl : a.length = b.length := by subst hA; simp [std] at *; omega
    refine ⟨⟨{k : Nat // k ≤ a.length ∧ ∀ i, i < k → a.getD i 0 = b.getD i 0}, fun _ k => [(5, .int .i64 (k.1 : Nat))], fun _ _ => [], fun k => a.length - k.1, true⟩, ⟨⟨0, by omega, fun i hi => absurd hi (by omega)⟩, ?_⟩, ?_⟩
    · cbv
      subst hA
      simp [std, zsF]
    · rintro ⟨k, hk, hq⟩
      cbv
      repeat' (first | with_reducible exact True.intro | with_reducible exact dr_ok hA (by kernel_rfl) | with_reducible refine And.intro ?_ ?_ | (intro hc; cbv))
      · subst hA; simp [std] at *; omega
      · subst hA; simp [std] at *; omega
      · have hlt : k < a.length := by subst hA; simp [std] at *; omega
        subst hA
        simp [std] at *
        intro e
        subst e
        exact hc rfl
      · have hlt : k < a.length := by subst hA; simp [std] at *; omega
        have he : a.getD k 0 = b.getD k 0 := by subst hA; simp [std] at *; assumption
        refine ⟨⟨k + 1, hlt, fun i hi => ?_⟩, ?_, show a.length - (k + 1) < a.length - k by omega⟩
        · by_cases h : i = k
          · subst h; exact he
          · exact hq i (by omega)
        cbv
        repeat' (first | with_reducible exact True.intro | with_reducible exact dr_ok hA (by kernel_rfl) | with_reducible refine And.intro ?_ ?_)
        all_goals (subst hA; simp [std, zsF])
        rw [w64 (by omega)]
      · have hlt : k = a.length := by subst hA; simp [std] at *; omega
        have e : a = b := by
          apply List.ext_getElem hl
          intro i h1 h2
          have := hq i (by omega)
          simpa [List.getD_eq_getElem?_getD, h1, h2] using this
        subst hA
        simp [std, e]
end Go.Vd

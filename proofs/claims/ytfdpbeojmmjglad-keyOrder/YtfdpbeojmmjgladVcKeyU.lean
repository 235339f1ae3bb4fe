/- Order of two keys, and what it calls. -/
import Derived.Test.YtfdpbeojmmjgladVcKeyT
set_option linter.unusedVariables false
namespace Go.Vc
open Go.Proofs
set_option maxRecDepth 100000
theorem good49 (a b : Int) : GoodP Try.prog 49 [.int .u32 a, .int .u32 b] (.int .i64 (ordI a b)) := by
  refine fn_sound' keyTys_ok g1_ok key_mixed Try.func49 fun A q hA hq => ?_
  generalize mixK = mix
  cbv
  refine ⟨fun h => (nomatch h), fun _ => ?_⟩
  cbv
  refine ⟨fun h => (nomatch h), fun _ => ?_⟩
  cbv
  refine ⟨fun h => ?_, fun h => ?_⟩ <;> cbv
  · subst hA hq
    simp [std] at h
    simp [ordI, h]
  · refine ⟨fun h' => ?_, fun h' => ?_⟩ <;> cbv
    · subst hA hq
      simp [std] at h h'
      simp [ordI, h', Int.not_lt.2 h]
    · subst hA hq
      simp [std] at h h'
      simp [ordI, Int.not_lt.2 h', Int.not_lt.2 h]
theorem bytesLess_eq : ∀ (x y : List UInt8), Op.bytesLess x y = decide (x < y)
  | _, [] => by simp [Op.bytesLess]
  | [], _ :: _ => by simp [Op.bytesLess]
  | a :: x, b :: y => by simp only [Op.bytesLess, bytesLess_eq x y, List.cons_lt_cons_iff]; rw [Bool.eq_iff_iff]; simp
theorem ordS_eq (a b : List UInt8) : ordS a b = if a < b then -1 else if b < a then 1 else 0 := by
  simp [ordS, bytesLess_eq]
theorem good50 (a b : List UInt8) : GoodP Try.prog 50 [.str a, .str b] (.int .i64 (ordS a b)) := by
  refine fn_sound' keyTys_ok g1_ok key_mixed Try.func50 fun A q hA hq => ?_
  generalize mixK = mix
  cbv
  refine ⟨fun h => (nomatch h), fun _ => ?_⟩
  cbv
  refine ⟨fun h => (nomatch h), fun _ => ?_⟩
  cbv
  refine ⟨fun h => ?_, fun h => ?_⟩ <;> cbv
  · subst hA hq
    simp only [std] at h
    simp [ordS, h]
  · refine ⟨fun h' => ?_, fun h' => ?_⟩ <;> cbv
    · subst hA hq
      simp only [std] at h h'
      simp only [bytesLess_eq] at h h'
      have : b < a := by
        simp only [Bool.not_eq_true', Bool.or_eq_false_iff, decide_eq_false_iff_not, beq_eq_false_iff_ne] at h h'
        exact (List.le_iff_lt_or_eq.1 (List.not_lt.1 h)).elim id (fun e => absurd e.symm h'.2)
      simp at h
      simp [ordS_eq, this, h]
    · subst hA hq
      simp only [std] at h h'
      simp only [bytesLess_eq] at h h'
      simp only [Bool.not_eq_false', Bool.or_eq_true, decide_eq_true_eq, decide_eq_false_iff_not, beq_iff_eq] at h h'
      rcases h' with h' | h'
      · exact absurd h' h
      · subst h'; simp [ordS_eq, h]
end Go.Vc

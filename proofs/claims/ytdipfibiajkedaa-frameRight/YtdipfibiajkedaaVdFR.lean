/- Proved: for every input paydesklaw05.FrameRight returns true, without a panic, and its input reads behind the call as it read before. No condition. -/
import Derived.Test.YtdipfibiajkedaaRows
import Derived.Test.YtdipfibiajkedaaVdF6
import Derived.Test.YtdipfibiajkedaaVdRow4
set_option linter.unusedVariables false
namespace Go.Proofs.Ytdipfibiajkedaa
open Go.ChangeShapes Go.WideShapes Go.ChangeAt Go.RowKit Go.Joins

theorem Try.own : ownKnob Try.prog.godebug = none := by kernel_rfl
theorem Try.cellsR : Try.prog.cellsOf 24 = 2 := by kernel_rfl
theorem Try.cellsB : Try.prog.cellsOf 5 = 1 := by kernel_rfl
theorem Try.laidOut : laidOutB Try.prog = true := by kernel_rfl

set_option maxRecDepth 100000 in
theorem frameRight_lifted (os : Os) (started : os.Started) (H : Type) (enc : TypeId × Value → H) :
    ReturnsInHanded {} Try.checked os 3 .any (Rows.frameRightSpec.pre6 enc Try.prog Try.f3 Rows.frameRightRow.domain false) (Rows.frameRightSpec.post enc Try.prog Try.f3 false true false false) := by
  refine returnsInHanded_of_change (C := Try.checked) Try.own started (by kernel_rfl) Try.func3
    (ChangeSpec.witness6 (enc := enc) (C := Try.checked) false ⟨#[], #[.agg #[.slice none 0 0, .bool false], .slice none 0 0], []⟩ 8 (by kernel_rfl) (by kernel_rfl) (by kernel_rfl) (by kernel_rfl)) ?_
  intro W base args ds gs before hval0 hW hcnd _
  have hval : ∀ (j : Nat) t v, Try.f3.params[j]? = some t → args[j]? = some v → Value.okWide Try.prog W .any base t v := hval0
  have hW' := hW
  obtain ⟨p, q, hA0, hV, rfl, hfz, hnd⟩ := hW
  have hA : DataW.TrodAll enc Try.prog W 0 (fun _ => true) true Try.f3.params.toList args.toList ds p := hA0
  rw [Try.params3] at hA hval
  obtain ⟨v0, v1, d0, d1, p0, p1, rfl, rfl, rfl, h0, h1⟩ := trodAll_two hA
  obtain ⟨rfl, rfl⟩ := trodVars_none hV
  obtain ⟨c0, c1, y0, y1, m, rfl, rfl, rfl, hy0, hy1⟩ := open_agg2 Try.underlying24 (by kernel_rfl) Try.cellsR (hval 0 24 v0 rfl rfl) h0
  obtain ⟨L, hL, hone, hr0⟩ := Vd.open_eB_trod Try.underlying22 Try.underlying5 Try.cellsB hy0
  obtain ⟨br, e0, rfl⟩ := DataW.trod_bool Try.underlying4 hy1
  simp at e0
  subst e0
  obtain ⟨M, hM, hr1⟩ := Vd.open_eB_rel (ρ := fun _ => undef) (N := fun _ => False) Try.underlying22 Try.underlying5 Try.cellsB (hval 1 22 v1 rfl rfl) h1
  clear hA0 hval0
  refine (Vd.good_bool (Vd.good_FrameRight br L M) (w := W) (vs := [.agg #[c0, .bool br], v1]) (Vd.gl0_ok W _) ⟨Vd.rel_agg2 hone rfl hr0.rel (.bool _), hr1, trivial⟩).mono fun e W' he => ?_
  obtain ⟨rfl, hb⟩ := he
  refine ⟨_, rfl, Vd.post_below Try.laidOut ?_ rfl hW' (fun _ _ _ => trodAll_mk1 (shut_bool Try.underlying4 _)) rfl rfl hb.below⟩
  rw [Try.params3]
  intro t ht
  simp at ht
  rcases ht with rfl | rfl <;> exact ⟨by kernel_rfl, of_decide_eq_true (by kernel_rfl)⟩

theorem frameRight_holds : Rows.FrameRightSaid :=
  OpenClaim.holds_of_wide 3 Try.f3 rfl rfl rfl rfl rfl rfl rfl ⟨rfl, rfl, rfl, rfl, rfl⟩ rfl rfl rfl rfl rfl (by kernel_rfl) Try.func3 (by kernel_rfl)
    (of_decide_eq_true (by kernel_rfl)) (by unfold Func.isWrapper; first | (rw [if_pos (by decide +kernel)]; kernel_rfl) | (rw [if_neg (by decide +kernel)]; exact ⟨rfl, rfl⟩))
    (fun os started H enc _ => frameRight_lifted os started H enc)
end Go.Proofs.Ytdipfibiajkedaa

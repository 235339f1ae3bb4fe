/- Proved: for every input paydesklaw05.FrameFeeds returns true, without a panic, and its input reads behind the call as it read before. No condition. -/
import Derived.Test.YtdipfibiajkedaaRows
import Derived.Test.YtdipfibiajkedaaWeF8
import Derived.Test.YtdipfibiajkedaaWeRow4
import Derived.Test.YtdipfibiajkedaaWeWf
set_option linter.unusedVariables false
set_option maxRecDepth 100000
namespace Go.Proofs.Ytdipfibiajkedaa
open Go.ChangeShapes Go.WideShapes Go.ChangeAt Go.RowKit Go.Joins

theorem Try.own : ownKnob Try.prog.godebug = none := by kernel_rfl
theorem Try.laidOut : laidOutB Try.prog = true := by kernel_rfl
theorem Try.cellsB : Try.prog.cellsOf 5 = 1 := by kernel_rfl
theorem Try.cellsR : Try.prog.cellsOf 24 = 2 := by kernel_rfl
set_option maxRecDepth 100000 in
theorem frameFeeds_lifted (os : Os) (started : os.Started) (H : Type) (enc : TypeId × Value → H) :
    ReturnsInHanded {} Try.checked os 5 .any (Rows.frameFeedsSpec.pre6 enc Try.prog Try.f5 Rows.frameFeedsRow.domain false) (Rows.frameFeedsSpec.post enc Try.prog Try.f5 false true false false) := by
  refine returnsInHanded_of_change (C := Try.checked) Try.own started (by kernel_rfl) Try.func5
    (ChangeSpec.witness6 (enc := enc) (C := Try.checked) false ⟨#[], #[.agg #[.slice none 0 0, .bool false], .slice none 0 0, .slice none 0 0], []⟩ 8 (by kernel_rfl) (by kernel_rfl) (by kernel_rfl) (by kernel_rfl)) ?_
  intro W base args ds gs before hval0 hW hcnd _
  have hval : ∀ (j : Nat) t v, Try.f5.params[j]? = some t → args[j]? = some v → Value.okWide Try.prog W .any base t v := hval0
  have hW' := hW
  obtain ⟨p, q, hA0, hV, rfl, hfz, hnd⟩ := hW
  have hA : DataW.TrodAll enc Try.prog W 0 (fun _ => true) true Try.f5.params.toList args.toList ds p := hA0
  rw [Try.params5] at hA hval
  obtain ⟨v0, v1, v2, d0, d1, d2, p0, p1, p2, rfl, rfl, rfl, h0, h1, h2⟩ := trodAll_three hA
  obtain ⟨rfl, rfl⟩ := trodVars_none hV
  obtain ⟨c0, cb0, y0, y1, m, rfl, rfl, rfl, hy0, hy1⟩ := open_agg2 Try.underlying24 (by kernel_rfl) Try.cellsR (hval 0 24 v0 rfl rfl) h0
  obtain ⟨L0, hL0, hone0, hr0⟩ := Vd.open_eB_trod Try.underlying22 Try.underlying5 Try.cellsB hy0
  obtain ⟨br0, e0, rfl⟩ := DataW.trod_bool Try.underlying4 hy1
  simp at e0
  subst e0
  obtain ⟨L1, hL1, hr1⟩ := Vd.open_eB_rel (ρ := fun _ => undef) (N := fun _ => False) Try.underlying22 Try.underlying5 Try.cellsB (hval 1 22 v1 rfl rfl) h1
  obtain ⟨L2, hL2, hr2⟩ := Vd.open_eB_rel (ρ := fun _ => undef) (N := fun _ => False) Try.underlying22 Try.underlying5 Try.cellsB (hval 2 22 v2 rfl rfl) h2
  clear hA0 hval0
  refine (Vd.good_bool (Vd.good_FrameFeeds br0 L0 L1 L2) (w := W) (vs := [.agg #[c0, .bool br0], v1, v2]) (Vd.gl0_ok W _) ⟨Vd.rel_agg2 hone0 rfl hr0.rel (.bool _), hr1, hr2, trivial⟩).mono fun e W' he => ?_
  obtain ⟨rfl, hb⟩ := he
  refine ⟨_, rfl, Vd.post_below Try.laidOut ?_ rfl hW' (fun _ _ _ => trodAll_mk1 (shut_bool Try.underlying4 _)) rfl rfl hb.below⟩
  rw [Try.params5]
  intro t ht
  simp at ht
  rcases ht with rfl | rfl <;> exact ⟨by kernel_rfl, of_decide_eq_true (by kernel_rfl)⟩

theorem frameFeeds_holds : Rows.FrameFeedsSaid :=
  OpenClaim.holds_of_wide 5 Try.f5 rfl rfl rfl rfl rfl rfl rfl ⟨rfl, rfl, rfl, rfl, rfl⟩ rfl rfl rfl rfl rfl (by kernel_rfl) Try.func5 (by kernel_rfl)
    (of_decide_eq_true (by kernel_rfl)) (by unfold Func.isWrapper; first | (rw [if_pos (by decide +kernel)]; kernel_rfl) | (rw [if_neg (by decide +kernel)]; exact ⟨rfl, rfl⟩))
    (fun os started H enc _ => frameFeeds_lifted os started H enc)
end Go.Proofs.Ytdipfibiajkedaa

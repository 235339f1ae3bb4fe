/- Proved: for every input paydesklaw19.WireFrames returns true, without a panic, and its input reads behind the call as it read before. No condition. -/
import Derived.Test.YtpkpbmpfmglbaacRows
import Derived.Test.YtpkpbmpfmglbaacVdR6
import Derived.Test.YtpkpbmpfmglbaacVdRow3
set_option linter.unusedVariables false
namespace Go.Proofs.Ytpkpbmpfmglbaac
open Go.ChangeShapes Go.WideShapes Go.ChangeAt Go.RowKit Go.Joins

theorem Try.own : ownKnob Try.prog.godebug = none := by kernel_rfl
theorem Try.cellsQ : Try.prog.cellsOf 45 = 1 := by kernel_rfl
theorem Try.cellsL : Try.prog.cellsOf 35 = 1 := by kernel_rfl
theorem Try.cellsB : Try.prog.cellsOf 5 = 1 := by kernel_rfl
theorem Try.laidOut : laidOutB Try.prog = true := by kernel_rfl

set_option maxRecDepth 100000 in
theorem wireFrames_lifted (os : Os) (started : os.Started) (H : Type) (enc : TypeId × Value → H) :
    ReturnsInHanded {} Try.checked os 6 .any (Rows.wireFramesSpec.pre6 enc Try.prog Try.f6 Rows.wireFramesRow.domain false) (Rows.wireFramesSpec.post enc Try.prog Try.f6 false true false false) := by
  refine returnsInHanded_of_change (C := Try.checked) Try.own started (by kernel_rfl) Try.func6
    (ChangeSpec.witness6 (enc := enc) (C := Try.checked) false ⟨#[], #[.agg #[.slice none 0 0], .slice none 0 0, .int .u8 0], []⟩ 8 (by kernel_rfl) (by kernel_rfl) (by kernel_rfl) (by kernel_rfl)) ?_
  intro W base args ds gs before hval0 hW hcnd _
  have hval : ∀ (j : Nat) t v, Try.f6.params[j]? = some t → args[j]? = some v → Value.okWide Try.prog W .any base t v := hval0
  have hW' := hW
  obtain ⟨p, q, hA0, hV, rfl, hfz, hnd⟩ := hW
  have hA : DataW.TrodAll enc Try.prog W 0 (fun _ => true) true Try.f6.params.toList args.toList ds p := hA0
  rw [Try.params6] at hA hval
  obtain ⟨v0, v1, v2, d0, d1, d2, p0, p1, p2, rfl, rfl, rfl, h0, h1, h2⟩ := trodAll_three hA
  obtain ⟨rfl, rfl⟩ := trodVars_none hV
  obtain ⟨c1, y1, m, rfl, rfl, rfl, hy1⟩ := Vd.open_one Try.underlying45 (by kernel_rfl) Try.cellsQ (hval 0 45 v0 rfl rfl) h0
  obtain ⟨L, hL, hone, hr0⟩ := Vd.open_eBs_trod (ρ := fun _ => undef) (N := fun _ => False) Try.underlying22 Try.underlying35 Try.underlying5 Try.cellsL Try.cellsB hy1
  obtain ⟨M, hM, hr1⟩ := Vd.open_eB_rel (ρ := fun _ => undef) (N := fun _ => False) Try.underlying35 Try.underlying5 Try.cellsB (hval 1 35 v1 rfl rfl) h1
  obtain ⟨n2, rfl, rfl, rfl, w2⟩ := open_int Try.underlying5 (hval 2 5 v2 rfl rfl) h2
  clear hA0 hval0
  refine (Vd.good_bool (Vd.good_WireFrames n2 (Vd.u8_wf w2) L M) (w := W) (vs := [.agg #[c1], v1, .int .u8 n2]) (Vd.gl0_ok W _) ⟨Vd.rel_agg1 hone hr0.rel, hr1, .int _ _, trivial⟩).mono fun e W' he => ?_
  obtain ⟨rfl, hb⟩ := he
  refine ⟨_, rfl, Vd.post_below Try.laidOut ?_ rfl hW' (fun _ _ _ => trodAll_mk1 (shut_bool Try.underlying4 _)) rfl rfl hb.below⟩
  rw [Try.params6]
  intro t ht
  simp at ht
  rcases ht with rfl | rfl | rfl <;> exact ⟨by kernel_rfl, of_decide_eq_true (by kernel_rfl)⟩

theorem wireFrames_holds : Rows.WireFramesSaid :=
  OpenClaim.holds_of_wide 6 Try.f6 rfl rfl rfl rfl rfl rfl rfl ⟨rfl, rfl, rfl, rfl, rfl⟩ rfl rfl rfl rfl rfl (by kernel_rfl) Try.func6 (by kernel_rfl)
    (of_decide_eq_true (by kernel_rfl)) (by unfold Func.isWrapper; first | (rw [if_pos (by decide +kernel)]; kernel_rfl) | (rw [if_neg (by decide +kernel)]; exact ⟨rfl, rfl⟩))
    (fun os started H enc _ => wireFrames_lifted os started H enc)
end Go.Proofs.Ytpkpbmpfmglbaac

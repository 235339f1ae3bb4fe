/- Proved: for every input paydesklaw13.QueueRight returns true, without a panic, and its input reads behind the call as it read before. No condition. -/
import Derived.Test.YtpkpbmpfmglbaacRows
import Derived.Test.YtpkpbmpfmglbaacVdQ4
import Derived.Test.YtpkpbmpfmglbaacVdRow2
set_option linter.unusedVariables false
namespace Go.Proofs.Ytpkpbmpfmglbaac
open Go.ChangeShapes Go.WideShapes Go.ChangeAt Go.RowKit Go.Joins

theorem Try.own : ownKnob Try.prog.godebug = none := by kernel_rfl
theorem Try.cellsQ : Try.prog.cellsOf 24 = 2 := by kernel_rfl
theorem Try.cellsL : Try.prog.cellsOf 35 = 1 := by kernel_rfl
theorem Try.cellsB : Try.prog.cellsOf 5 = 1 := by kernel_rfl
theorem Try.laidOut : laidOutB Try.prog = true := by kernel_rfl

set_option maxRecDepth 100000 in
theorem queueRight_lifted (os : Os) (started : os.Started) (H : Type) (enc : TypeId × Value → H) :
    ReturnsInHanded {} Try.checked os 3 .any (Rows.queueRightSpec.pre6 enc Try.prog Try.f3 Rows.queueRightRow.domain false) (Rows.queueRightSpec.post enc Try.prog Try.f3 false true false false) := by
  refine returnsInHanded_of_change (C := Try.checked) Try.own started (by kernel_rfl) Try.func3
    (ChangeSpec.witness6 (enc := enc) (C := Try.checked) false ⟨#[], #[.agg #[.int .i64 0, .slice none 0 0], .slice none 0 0, .int .i64 0], []⟩ 8 (by kernel_rfl) (by kernel_rfl) (by kernel_rfl) (by kernel_rfl)) ?_
  intro W base args ds gs before hval0 hW hcnd _
  have hval : ∀ (j : Nat) t v, Try.f3.params[j]? = some t → args[j]? = some v → Value.okWide Try.prog W .any base t v := hval0
  have hW' := hW
  obtain ⟨p, q, hA0, hV, rfl, hfz, hnd⟩ := hW
  have hA : DataW.TrodAll enc Try.prog W 0 (fun _ => true) true Try.f3.params.toList args.toList ds p := hA0
  rw [Try.params3] at hA hval
  obtain ⟨v0, v1, v2, d0, d1, d2, p0, p1, p2, rfl, rfl, rfl, h0, h1, h2⟩ := trodAll_three hA
  obtain ⟨rfl, rfl⟩ := trodVars_none hV
  obtain ⟨c0, c1, y0, y1, m, rfl, rfl, rfl, hy0, hy1⟩ := open_agg2 Try.underlying24 (by kernel_rfl) Try.cellsQ (hval 0 24 v0 rfl rfl) h0
  obtain ⟨a0, e0, rfl, wa0⟩ := DataW.trod_int Try.underlying3 hy0
  obtain ⟨L, hL, hone, hr0⟩ := Vd.open_eBs_trod (ρ := fun _ => undef) (N := fun _ => False) Try.underlying22 Try.underlying35 Try.underlying5 Try.cellsL Try.cellsB hy1
  simp at e0
  subst e0
  obtain ⟨M, hM, hr1⟩ := Vd.open_eBs_rel (ρ := fun _ => undef) (N := fun _ => False) Try.underlying22 Try.underlying35 Try.underlying5 Try.cellsL Try.cellsB (hval 1 22 v1 rfl rfl) h1
  obtain ⟨n2, rfl, rfl, rfl, w2⟩ := open_int Try.underlying3 (hval 2 3 v2 rfl rfl) h2
  clear hA0 hval0
  refine (Vd.good_bool (Vd.good_QueueRight a0 n2 L M) (w := W) (vs := [.agg #[.int .i64 a0, c1], v1, .int .i64 n2]) (Vd.gl0_ok W _) ⟨Vd.rel_agg2 rfl hone (.int _ _) hr0.rel, hr1, .int _ _, trivial⟩).mono fun e W' he => ?_
  obtain ⟨rfl, hb⟩ := he
  refine ⟨_, rfl, Vd.post_below Try.laidOut ?_ rfl hW' (fun _ _ _ => trodAll_mk1 (shut_bool Try.underlying4 _)) rfl rfl hb.below⟩
  rw [Try.params3]
  intro t ht
  simp at ht
  rcases ht with rfl | rfl | rfl <;> exact ⟨by kernel_rfl, of_decide_eq_true (by kernel_rfl)⟩

theorem queueRight_holds : Rows.QueueRightSaid :=
  OpenClaim.holds_of_wide 3 Try.f3 rfl rfl rfl rfl rfl rfl rfl ⟨rfl, rfl, rfl, rfl, rfl⟩ rfl rfl rfl rfl rfl (by kernel_rfl) Try.func3 (by kernel_rfl)
    (of_decide_eq_true (by kernel_rfl)) (by unfold Func.isWrapper; first | (rw [if_pos (by decide +kernel)]; kernel_rfl) | (rw [if_neg (by decide +kernel)]; exact ⟨rfl, rfl⟩))
    (fun os started H enc _ => queueRight_lifted os started H enc)
end Go.Proofs.Ytpkpbmpfmglbaac

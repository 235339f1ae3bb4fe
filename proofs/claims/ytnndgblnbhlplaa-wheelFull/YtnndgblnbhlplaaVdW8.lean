/- Proved: for every input paydesklaw09.WheelFull returns true, without a panic, and its input reads behind the call as it read before. No condition. -/
import Derived.Test.YtnndgblnbhlplaaRows
import Derived.Test.YtnndgblnbhlplaaVdWf2
import Derived.Test.YtnndgblnbhlplaaVdWi
set_option linter.unusedVariables false
set_option maxRecDepth 100000
namespace Go.Proofs.Ytnndgblnbhlplaa
open Go.ChangeShapes Go.WideShapes Go.ChangeAt Go.RowKit Go.Joins

theorem Try.own : ownKnob Try.prog.godebug = none := by kernel_rfl
theorem Try.laidOut : laidOutB Try.prog = true := by kernel_rfl
theorem Try.cellsKy : Try.prog.cellsOf 29 = 2 := by kernel_rfl
theorem Try.cellsU : Try.prog.cellsOf 55 = 1 := by kernel_rfl
set_option maxRecDepth 100000 in
theorem wheelFull_lifted (os : Os) (started : os.Started) (H : Type) (enc : TypeId × Value → H) :
    ReturnsInHanded {} Try.checked os 5 .any (Rows.wheelFullSpec.pre6 enc Try.prog Try.f5 Rows.wheelFullRow.domain false) (Rows.wheelFullSpec.post enc Try.prog Try.f5 false true false false) := by
  refine returnsInHanded_of_change (C := Try.checked) Try.own started (by kernel_rfl) Try.func5
    (ChangeSpec.witness6 (enc := enc) (C := Try.checked) false ⟨#[], #[.int .u32 0, .slice none 0 0, .slice none 0 0, .int .u8 0], []⟩ 8 (by kernel_rfl) (by kernel_rfl) (by kernel_rfl) (by kernel_rfl)) ?_
  intro W base args ds gs before hval0 hW hcnd _
  have hval : ∀ (j : Nat) t v, Try.f5.params[j]? = some t → args[j]? = some v → Value.okWide Try.prog W .any base t v := hval0
  have hW' := hW
  obtain ⟨p, q, hA0, hV, rfl, hfz, hnd⟩ := hW
  have hA : DataW.TrodAll enc Try.prog W 0 (fun _ => true) true Try.f5.params.toList args.toList ds p := hA0
  rw [Try.params5] at hA hval
  obtain ⟨v0, v1, v2, v3, d0, d1, d2, d3, p0, p1, p2, p3, rfl, rfl, rfl, h0, h1, h2, h3⟩ := trodAll_four hA
  obtain ⟨rfl, rfl⟩ := trodVars_none hV
  obtain ⟨n0, rfl, rfl, rfl, w0⟩ := open_int Try.underlying27 (hval 0 27 v0 rfl rfl) h0
  obtain ⟨L1, hL1, hr1⟩ := Vd.open_kys_rel (ρ := fun _ => undef) (N := fun _ => False) Try.underlying53 Try.underlying29 Try.cellsKy rfl (by kernel_rfl) rfl (by kernel_rfl) Try.underlying27 Try.underlying9 (hval 1 53 v1 rfl rfl) h1
  obtain ⟨L2, hL2, hB2, hr2⟩ := Vd.open_u16s_rel (ρ := fun _ => undef) (N := fun _ => False) Try.underlying54 Try.underlying55 Try.cellsU (hval 2 54 v2 rfl rfl) h2
  obtain ⟨n3, rfl, rfl, rfl, w3⟩ := open_int Try.underlying5 (hval 3 5 v3 rfl rfl) h3
  clear hA0 hval0
  refine (Vd.good_bool (Vd.good_WheelFull n0 n3 L1 L2 (Vd.u32_wf w0) (Vd.u8_wf w3) (Nat.le_trans hL1 (by decide)) (Nat.le_trans hL2 (by decide)) hB2) (w := W) (vs := [.int .u32 n0, v1, v2, .int .u8 n3]) (Vd.gl0_ok W _) ⟨.int _ _, hr1, hr2, .int _ _, trivial⟩).mono fun e W' he => ?_
  obtain ⟨rfl, hb⟩ := he
  refine ⟨_, rfl, Vd.post_below Try.laidOut ?_ rfl hW' (fun _ _ _ => trodAll_mk1 (shut_bool Try.underlying4 _)) rfl rfl hb.below⟩
  rw [Try.params5]
  intro t ht
  simp at ht
  rcases ht with rfl | rfl | rfl | rfl <;> exact ⟨by kernel_rfl, of_decide_eq_true (by kernel_rfl)⟩

theorem wheelFull_holds : Rows.WheelFullSaid :=
  OpenClaim.holds_of_wide 5 Try.f5 rfl rfl rfl rfl rfl rfl rfl ⟨rfl, rfl, rfl, rfl, rfl⟩ rfl rfl rfl rfl rfl (by kernel_rfl) Try.func5 (by kernel_rfl)
    (of_decide_eq_true (by kernel_rfl)) (by unfold Func.isWrapper; first | (rw [if_pos (by decide +kernel)]; kernel_rfl) | (rw [if_neg (by decide +kernel)]; exact ⟨rfl, rfl⟩))
    (fun os started H enc _ => wheelFull_lifted os started H enc)
end Go.Proofs.Ytnndgblnbhlplaa

